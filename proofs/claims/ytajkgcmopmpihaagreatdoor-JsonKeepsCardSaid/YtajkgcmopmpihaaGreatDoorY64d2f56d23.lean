/- Texts put together: Js3 Js4 Js5. -/
import Derived.Test.YtajkgcmopmpihaaGreatDoorY71e62596e8
import Derived.Test.YtajkgcmopmpihaaGreatDoorY5ce7323bda
import Derived.Test.YtajkgcmopmpihaaGreatDoorYbc60d53a70
import Derived.Test.YtajkgcmopmpihaaGreatDoorY15ea474c78
import Derived.Test.YtajkgcmopmpihaaGreatDoorY8edaa997fb
import Derived.Test.YtajkgcmopmpihaaGreatDoorYfffa4af51d
namespace Go.Proofs.YtajkgcmopmpihaaGreatDoor
open Go.Lib
set_option linter.unusedVariables false
theorem parse_digs : ∀ (l : List UInt8) (acc u : Nat), parseUint10 acc l = .ok u → (∀ c ∈ l, digB c = true) ∧ u = valL acc l
  | [], acc, u, h => by rw [parseUint10] at h; injection h with h; exact ⟨fun c hc => absurd hc List.not_mem_nil, h.symm⟩
  | c :: l, acc, u, h => by
    rw [parseUint10] at h
    split at h
    · rename_i hc
      split at h
      · cases h
      · split at h
        · cases h
        · obtain ⟨a, b⟩ := parse_digs l _ u h
          refine ⟨fun x hx => ?_, b⟩
          rcases List.mem_cons.1 hx with rfl | hx
          · exact (digB_iff x).2 hc
          · exact a x hx
    · cases h
theorem val_pos {c : UInt8} {q : List UInt8} (h : digB c = true) (h1 : c ≠ 48) : 1 ≤ valL 0 (c :: q) := by
  have h2 := (digB_iff c).1 h
  have h3 : c.toNat ≠ 48 := fun e => h1 (UInt8.toNat_inj.1 e)
  have := valL_ge (0 * 10 + (c.toNat - 48)) q
  show 1 ≤ valL (0 * 10 + (c.toNat - 48)) q
  omega
theorem dec_canon : ∀ (n : Nat) (l : List UInt8), l.length = n → l ≠ [] → (∀ c ∈ l, digB c = true) → ¬ (1 < l.length ∧ l.head? = some 48) → decDigits (valL 0 l) = l
  | 0, l, hn, hne, _, _ => absurd (List.length_eq_zero_iff.1 hn) hne
  | n + 1, l, hn, hne, hd, hz => by
    obtain ⟨m, d, rfl⟩ : ∃ m d, l = m ++ [d] := ⟨_, _, (List.dropLast_concat_getLast hne).symm⟩
    have hdd := (digB_iff d).1 (hd d (by simp))
    have hb : UInt8.ofNat (48 + (d.toNat - 48)) = d := by rw [show 48 + (d.toNat - 48) = d.toNat by omega]; exact UInt8.ofNat_toNat
    rw [valL_app]
    show decDigits (valL 0 m * 10 + (d.toNat - 48)) = _
    cases m with
    | nil =>
      show decDigits (0 * 10 + (d.toNat - 48)) = [d]
      rw [Nat.zero_mul, Nat.zero_add, decDigits, dif_pos (by omega), hb]
    | cons c q =>
      have h48 : c ≠ 48 := fun e => hz ⟨by simp, by rw [e]; rfl⟩
      have hp := val_pos (q := q) (hd c (by simp)) h48
      have ih := dec_canon n (c :: q) (by simpa using hn) (by simp) (fun x hx => hd x (List.mem_append_left _ hx)) (fun x => h48 (by have := x.2; injection this))
      obtain ⟨v, hv⟩ : ∃ v, valL 0 (c :: q) = v := ⟨_, rfl⟩
      rw [hv] at hp ih ⊢
      rw [decDigits, dif_neg (by omega), show (v * 10 + (d.toNat - 48)) / 10 = v by omega, show (v * 10 + (d.toNat - 48)) % 10 = d.toNat - 48 by omega, ih, hb]
theorem whole_itoa (n : Int) : wholeF (itoa n) = (true, false) := by
  by_cases hn : n < 0
  · have e : itoa n = 45 :: decDigits n.natAbs := by unfold itoa; rw [if_pos hn]
    rw [e]; unfold wholeF signF; simp only [if_true]; exact whole_tail _
  · have e : itoa n = decDigits n.toNat := by unfold itoa; rw [if_neg hn]
    obtain ⟨c0, q0, hcq⟩ : ∃ c q, decDigits n.toNat = c :: q := by
      cases h : decDigits n.toNat with
      | nil => exact absurd h (dec_ne _)
      | cons c q => exact ⟨c, q, rfl⟩
    have hne := dig_ne c0 (dec_digs n.toNat c0 (by rw [hcq]; simp))
    have := whole_tail n.toNat
    rw [e]
    unfold wholeF
    have hs : signF (decDigits n.toNat) = decDigits n.toNat := by
      rw [hcq]; unfold signF; dsimp only; rw [if_neg (by intro h; exact hne.1 (by rw [h]; rfl))]
    rw [hs]; exact this
theorem mag_canon {M D : List UInt8} {u : Nat} (h : parseMag D = .ok u) (hw : (wholeF M).1 = true) (hs : signF M = D) : decDigits u = D := by
  unfold parseMag at h
  split at h
  · cases h
  · rename_i hne
    obtain ⟨a, rfl⟩ := parse_digs D 0 u h
    refine dec_canon _ D rfl hne a (fun x => ?_)
    have ht := (take_all (p := digB) D [] a (fun c hc => by cases hc)).1
    rw [List.append_nil] at ht
    unfold wholeF at hw
    dsimp only at hw
    rw [hs, ht, decide_eq_true x.1, x.2] at hw
    have e : (D.isEmpty || (true && (some (48 : UInt8) == some 48))) = true := by cases D.isEmpty <;> rfl
    rw [e, if_pos rfl] at hw
    cases hw
theorem itoa_of_atoi {M : List UInt8} {n : Int} (hw : (wholeF M).1 = true) (h : atoiAll M = .ok n) (hz : M ≠ [45, 48]) : itoa n = M := by
  cases M with
  | nil => cases h
  | cons c r =>
    by_cases h45 : c = 45
    · subst h45
      unfold atoiAll at h
      simp only [show ((45 : UInt8).toNat = 43 ∨ (45 : UInt8).toNat = 45) from .inr rfl, if_true] at h
      cases hp : parseMag r with
      | range => rw [hp] at h; cases h
      | ok u =>
        rw [hp] at h
        dsimp only at h
        rw [if_neg (fun x => x.1 rfl)] at h
        split at h
        · cases h
        · injection h with h
          have hD := mag_canon hp hw rfl
          by_cases hu : u = 0
          · subst hu
            refine absurd ?_ hz
            rw [← hD]
            rw [decDigits, dif_pos (by decide)]; rfl
          · rw [← h, ← hD]
            have hu1 : 1 ≤ u := by omega
            show itoa (-(u : Int)) = 45 :: decDigits u
            have hn : -(u : Int) < 0 := by omega
            unfold itoa
            rw [if_pos hn, show (-(u : Int)).natAbs = u by omega]
      | _ => rw [hp] at h; cases h
    · have n45 : c.toNat ≠ 45 := fun e => h45 (UInt8.toNat_inj.1 e)
      by_cases h43 : c = 43
      · subst h43
        have : (wholeF (43 :: r)).1 = false := rfl
        rw [this] at hw; cases hw
      · have n43 : c.toNat ≠ 43 := fun e => h43 (UInt8.toNat_inj.1 e)
        unfold atoiAll at h
        simp only [show ¬ (c.toNat = 43 ∨ c.toNat = 45) from fun x => x.elim n43 n45, if_false] at h
        have hsg : signF (c :: r) = c :: r := by unfold signF; dsimp only; rw [if_neg h45]
        cases hp : parseMag (c :: r) with
        | range => rw [hp] at h; cases h
        | ok u =>
          rw [hp] at h
          dsimp only at h
          split at h
          · cases h
          · rw [if_neg (fun x => n45 x.1)] at h
            injection h with h
            have hD := mag_canon hp hw hsg
            rw [← h, ← hD]
            unfold itoa
            rw [if_neg (by omega)]
            congr 1
        | _ => rw [hp] at h; cases h
theorem more_of_atoi {M : List UInt8} {n : Int} (hw : (wholeF M).1 = true) (h : atoiAll M = .ok n) (hz : M ≠ [45, 48]) : (wholeF M).2 = false := by
  rw [← itoa_of_atoi hw h hz, whole_itoa]
end Go.Proofs.YtajkgcmopmpihaaGreatDoor
namespace Go.Proofs.YtajkgcmopmpihaaGreatDoor
open Go.ChangeShapes Go.WideShapes Go.ChangeAt Go.RowKit Go.IntWalk
set_option linter.unusedVariables false
set_option maxRecDepth 100000
theorem size_valS : (Tryz.prog.info? 25).map (·.size) = some 6 := by kernel_rfl
theorem res_cell3 {fn : Func} {p q r : Tmp} {ty : TypeId} (h : fn.results = #[.cell p ty, .tmp q, .tmp r]) (tmps : Array Value) (a : Addr) (v u x : Value) (W : World) (hp : tmps.getD p undef = .pointer (some a)) (hq : tmps.getD q undef = u) (hr : tmps.getD r undef = x) (hld : (loadVar ty a).run Tryz.prog W = .ok v W) : (results fn tmps).run Tryz.prog W = .ok (.tuple #[v, u, x]) W := by
  simp only [Array.getD_eq_getD_getElem?] at hp hq hr
  subst hq hr
  simp [results, h, hp, asAddr, hld]
theorem take_at {s : List UInt8} {a k : Nat} {p : UInt8 → Bool} (h : (s.drop a).dropWhile p = s.drop k) (h1 : a ≤ k) (h2 : k ≤ s.length) : (s.drop a).takeWhile p = (s.take k).drop a := by
  have hl := tw_len h.symm h1 h2
  have e : (s.drop a).takeWhile p = (s.drop a).take (k - a) := by
    have h3 := List.prefix_iff_eq_take.1 (List.takeWhile_prefix (l := s.drop a) p)
    rw [hl] at h3
    exact h3
  rw [e, List.drop_take]
def AtN (M : List UInt8) (v : Int) : Prop := Lib.atoiAll M = .ok v ∨ ((∀ z, Lib.atoiAll M ≠ .ok z) ∧ (Lib.itoa v ≠ M ∨ 9007199254740991 < v ∨ v < -9007199254740991))
theorem atoin_calls (l : List UInt8) (hl : l.length ≤ 65536) (w : World) (hE : ErrC w) : Calls Tryz.prog 72 #[.string ⟨l.toArray⟩] w fun e w' => Below w.heap.size w w' ∧ ∃ v x, e = .returned (.tuple #[.int .i64 v, x]) ∧ (-9223372036854775808 ≤ v ∧ v ≤ 9223372036854775807) ∧ AtN l v := by
  obtain ⟨h0, ⟨v1, a1, a2⟩, v2, b1, b2⟩ := hE
  have hs : (⟨l.toArray⟩ : ByteArray).size = l.length := rfl
  cases hx : Lib.atoiAll l with
  | ok v =>
    refine (Tryz.strconv_Atoi_ok ⟨l.toArray⟩ (by rw [hs]; omega) v hx w).mono ?_
    rintro e w' ⟨rfl, h⟩
    refine ⟨?_, v, _, rfl, Lib.atoiAll_bounds hx, .inl hx⟩
    rcases h with rfl | ⟨t, rfl⟩
    · exact Below.refl _ _
    · exact Lib.bytesWorld_below _ _ _
  | range =>
    refine (Tryz.strconv_Atoi_range ⟨l.toArray⟩ (by rw [hs]; omega) hx v2 w b1 b2).mono ?_
    rintro e w' ⟨N, rfl, _, _, h⟩
    refine ⟨h, _, _, rfl, ?_, .inr ⟨fun z hz => (by rw [hx] at hz; cases hz), .inr ?_⟩⟩
    · unfold Lib.atoiSat; split <;> exact ⟨by decide, by decide⟩
    · unfold Lib.atoiSat; split
      · exact .inr (by decide)
      · exact .inl (by decide)
  | _ =>
    refine (Tryz.strconv_Atoi_syntax ⟨l.toArray⟩ (by rw [hs]; omega) hx v1 w a1 a2).mono ?_
    rintro e w' ⟨N, rfl, _, _, h⟩
    refine ⟨h, _, _, rfl, ⟨by decide, by decide⟩, .inr ⟨fun z hz => (by rw [hx] at hz; cases hz), .inl (fun e => ?_)⟩⟩
    rw [← e] at hx
    exact absurd hx (by rw [show Lib.itoa 0 = [48] by unfold Lib.itoa; rw [if_neg (by decide), show (0 : Int).toNat = 0 from rfl, Lib.decDigits, dif_pos (by decide)]; rfl]; decide)
section
variable {r M : List UInt8} {v : Int}
theorem refnum_no (hT : r.takeWhile numB = M) (hw : (wholeF M).1 = true) (hx : (wholeF M).2 = true ∨ Lib.itoa v ≠ M ∨ 9007199254740991 < v ∨ v < -9007199254740991) (hv : AtN M v) : numP r = .error 7 := by
  have hi : isNumF M = true := by rw [← whole_fst]; exact hw
  rcases hv with h | h
  · by_cases hz : M = [45, 48]
    · exact num_out hT hi h (.inl hz)
    · rcases hx with x | x | x | x
      · rw [more_of_atoi hw h hz] at x; cases x
      · exact absurd (itoa_of_atoi hw h hz) x
      · exact num_out hT hi h (.inr (.inr x))
      · exact num_out hT hi h (.inr (.inl x))
  · exact num_bad hT hi h.1
theorem refnum_ok (hT : r.takeWhile numB = M) (hw : (wholeF M).1 = true) (h1 : Lib.itoa v = M) (h2 : ¬ 9007199254740991 < v) (h3 : ¬ v < -9007199254740991) (hv : AtN M v) : numP r = .ok (⟨2, false, v, [], .nil, .nil⟩, r.dropWhile numB) := by
  have hi : isNumF M = true := by rw [← whole_fst]; exact hw
  rcases hv with h | h
  · refine num_in hT hi h (fun hz => ?_) h3 h2
    rw [hz] at h
    have : Lib.atoiAll [45, 48] = .ok 0 := by decide
    rw [this] at h
    injection h with h
    rw [← h] at h1
    rw [hz, show Lib.itoa 0 = [48] by unfold Lib.itoa; rw [if_neg (by decide), show (0 : Int).toNat = 0 from rfl, Lib.decDigits, dif_pos (by decide)]; rfl] at h1
    cases h1
  · exact absurd h.2 (fun x => x.elim (fun x => x h1) (fun x => x.elim h2 h3))
end
def VNs (lo : Nat) (w : World) (v : Jv) (A B : Option Addr) (nl cl nm cm : Nat) : Prop := Room nl cl v.l.ext ∧ Room nm cm v.m.ext ∧ JSl (fun b => lo ≤ b ∧ b < w.heap.size) w false A v.l ∧ JSl (fun b => lo ≤ b ∧ b < w.heap.size) w true B v.m ∧ Fit v.kd v.n v.s
theorem VNs.leaf (lo : Nat) (w : World) {kd n : Int} {is : Bool} {s : List UInt8} (h : Fit kd n s) : VNs lo w ⟨kd, is, n, s, .nil, .nil⟩ none none 0 0 0 0 := ⟨⟨rfl, Nat.le_refl _, by decide⟩, ⟨rfl, Nat.le_refl _, by decide⟩, .inl rfl, .inl rfl, h⟩
def TRes (s : List UInt8) (R : PRes) (w : World) (e : Ending) (w' : World) : Prop :=
  Below w.heap.size w w' ∧ ((∃ c, R = .error c ∧ e = .returned (.tuple #[.agg #[.int .i64 0, .bool false, .int .i64 0, .string ⟨#[]⟩, .slice none 0 0, .slice none 0 0], .int .i64 0, .int .i64 c])) ∨
    ∃ (v : Jv) (at' : Nat) (A B : Option Addr) (nl cl nm cm : Nat), R = .ok (v, s.drop at') ∧ at' ≤ s.length ∧ e = .returned (.tuple #[.agg #[.int .i64 v.kd, .bool v.is, .int .i64 v.n, .string ⟨v.s.toArray⟩, .slice A nl cl, .slice B nm cm], .int .i64 (at' : Int), .int .i64 0]) ∧ VNs w.heap.size w' v A B nl cl nm cm)
set_option maxHeartbeats 16000000 in
theorem refnumber_calls (base : Nat) (s : List UInt8) (at_ : Nat) (w : World) (hs : s.length ≤ 65536) (ha : at_ ≤ s.length) (hE : ErrC w) (hT : PowT base w) (hbs : base ≤ w.heap.size) :
    Calls Tryz.prog 42 #[.string ⟨s.toArray⟩, .int .i64 (at_ : Int)] w (TRes s (numP (s.drop at_)) w) := by
  obtain ⟨n, hn⟩ : ∃ n, s.length = n := ⟨_, rfl⟩
  have hsz : (⟨s.toArray⟩ : ByteArray).size = n := hn
  have HS := Lib.hid hs
  have HE := Lib.hid hE
  have HTB := Lib.hid hT
  have hbase := Lib.hid hbs
  have HN := Lib.hid hn
  have HA := Lib.hid (show at_ ≤ n by rw [← hn]; exact ha)
  rw [hn] at hs
  have hn6 : n ≤ 65536 := hs
  clear hs ha hn hE hT hbs
  go_enter Tryz.func42, Tryz.ntmps42
  go_wp2_with fail
  have hz := Blk.new w [.int .i64 0, .bool false, .int .i64 0, .string ⟨#[]⟩, .slice none 0 0, .slice none 0 0] 25
  have HB0 := Lib.hid ((Below.refl w.heap.size w).alloc (Nat.le_refl _) (.cells #[.int .i64 0, .bool false, .int .i64 0, .string ⟨#[]⟩, .slice none 0 0, .slice none 0 0] 25))
  go_loopw [7] (fun iv wr => ∃ k : Nat, iv = .int .i64 (k : Int) ∧ k ≤ n ∧ Hid (at_ ≤ k ∧ (s.drop at_).dropWhile numB = (s.drop k).dropWhile numB) ∧ Hid (Below w.heap.size w wr) ∧ Hid (Blk wr w.heap.size 25 [.int .i64 0, .bool false, .int .i64 0, .string ⟨#[]⟩, .slice none 0 0, .slice none 0 0])) (fun iv _ => n - (intOf iv).toNat)
  case atStart => exact ⟨at_, rfl, HA.out, Lib.hid ⟨Nat.le_refl _, rfl⟩, HB0, Lib.hid hz⟩
  case round =>
    obtain ⟨k, rfl, hk, HK, hB, hZ⟩ := hrel
    clear hz
    have hak := HK.out.1
    by_cases hkn : k < n
    · have hk2 : (k : Int) < (n : Int) := by omega
      have hk3 : k < s.length := by rw [HN.out]; exact hkn
      obtain ⟨c, hc⟩ : ∃ c, s[k] = c := ⟨_, rfl⟩
      have HD := Lib.hid (show s.drop k = c :: s.drop (k + 1) by rw [List.drop_eq_getElem_cons hk3, hc])
      have hwr : IntKind.i64.wrap ((k : Int) + 1) = (k : Int) + 1 := IntWalk.i64_in _ (by omega)
      by_cases hnb : numB c = true
      · have HNX := Lib.hid (show (s.drop at_).dropWhile numB = (s.drop (k + 1)).dropWhile numB by rw [HK.out.2, HD.out, List.dropWhile_cons, if_pos hnb])
        by_cases hd : digB c = true
        · have hd2 := (digB_iff c).1 hd
          obtain ⟨z, hzz⟩ : ∃ z, c.toNat = z := ⟨_, rfl⟩
          rw [hzz] at hd2
          have q1 : decide ((48 : Int) ≤ (z : Int)) = true := by simp; omega
          have q2 : decide ((z : Int) ≤ 57) = true := by simp; omega
          have q3 : (48 : Int) ≤ (z : Int) := by omega
          have q4 : (z : Int) ≤ 57 := by omega
          clear hd hd2 hnb
          go_wp2_with fail
          exact ⟨⟨k + 1, by push_cast; rfl, by omega, Lib.hid ⟨Nat.le_succ_of_le HK.out.1, HNX.out⟩, hB, hZ⟩, by simp [intOf]; omega⟩
        · have hcc : c = 43 ∨ c = 45 ∨ c = 46 ∨ c = 101 ∨ c = 69 := by
            unfold numB at hnb
            simp only [hd, Bool.false_or, Bool.or_eq_true, beq_iff_eq] at hnb
            rcases hnb with (((h | h) | h) | h) | h
            · exact .inl h
            · exact .inr (.inl h)
            · exact .inr (.inr (.inl h))
            · exact .inr (.inr (.inr (.inl h)))
            · exact .inr (.inr (.inr (.inr h)))
          clear hd hnb
          rcases hcc with e | e | e | e | e
          · subst e
            clear HD
            go_wp2_with fail
            exact ⟨⟨k + 1, by push_cast; rfl, by omega, Lib.hid ⟨Nat.le_succ_of_le HK.out.1, HNX.out⟩, hB, hZ⟩, by simp [intOf]; omega⟩
          · subst e
            clear HD
            go_wp2_with fail
            exact ⟨⟨k + 1, by push_cast; rfl, by omega, Lib.hid ⟨Nat.le_succ_of_le HK.out.1, HNX.out⟩, hB, hZ⟩, by simp [intOf]; omega⟩
          · subst e
            clear HD
            go_wp2_with fail
            exact ⟨⟨k + 1, by push_cast; rfl, by omega, Lib.hid ⟨Nat.le_succ_of_le HK.out.1, HNX.out⟩, hB, hZ⟩, by simp [intOf]; omega⟩
          · subst e
            clear HD
            go_wp2_with fail
            exact ⟨⟨k + 1, by push_cast; rfl, by omega, Lib.hid ⟨Nat.le_succ_of_le HK.out.1, HNX.out⟩, hB, hZ⟩, by simp [intOf]; omega⟩
          · subst e
            clear HD
            go_wp2_with fail
            exact ⟨⟨k + 1, by push_cast; rfl, by omega, Lib.hid ⟨Nat.le_succ_of_le HK.out.1, HNX.out⟩, hB, hZ⟩, by simp [intOf]; omega⟩
      · have KD := Lib.hid (show (s.drop at_).dropWhile numB = s.drop k by rw [HK.out.2, HD.out, List.dropWhile_cons, if_neg hnb])
        have hne : ¬ digB c = true ∧ c ≠ 43 ∧ c ≠ 45 ∧ c ≠ 46 ∧ c ≠ 101 ∧ c ≠ 69 := by
          unfold numB at hnb
          simp only [Bool.or_eq_true, beq_iff_eq, not_or] at hnb
          exact ⟨hnb.1.1.1.1.1, hnb.1.1.1.1.2, hnb.1.1.1.2, hnb.1.1.2, hnb.1.2, hnb.2⟩
        obtain ⟨z, hzz⟩ : ∃ z, c.toNat = z := ⟨_, rfl⟩
        obtain ⟨hnd, n1, n2, n3, n4, n5⟩ := hne
        rw [digB_iff, hzz] at hnd
        have e1 : ((z : Int) == 43) = false := by rw [beq_eq_false_iff_ne]; intro e; exact n1 (UInt8.toNat_inj.1 (by rw [hzz]; show z = 43; omega))
        have e2 : ((z : Int) == 45) = false := by rw [beq_eq_false_iff_ne]; intro e; exact n2 (UInt8.toNat_inj.1 (by rw [hzz]; show z = 45; omega))
        have e3 : ((z : Int) == 46) = false := by rw [beq_eq_false_iff_ne]; intro e; exact n3 (UInt8.toNat_inj.1 (by rw [hzz]; show z = 46; omega))
        have e4 : ((z : Int) == 101) = false := by rw [beq_eq_false_iff_ne]; intro e; exact n4 (UInt8.toNat_inj.1 (by rw [hzz]; show z = 101; omega))
        have e5 : ((z : Int) == 69) = false := by rw [beq_eq_false_iff_ne]; intro e; exact n5 (UInt8.toNat_inj.1 (by rw [hzz]; show z = 69; omega))
        clear n1 n2 n3 n4 n5 hnb HD
        by_cases h48 : 48 ≤ z
        · have q1 : decide ((48 : Int) ≤ (z : Int)) = true := by simp; omega
          have q3 : (48 : Int) ≤ (z : Int) := by omega
          have q4 : ¬ (z : Int) ≤ 57 := by omega
          have q2 : decide ((z : Int) ≤ 57) = false := by simp; omega
          clear hnd h48
          obtain ⟨M, hM⟩ : ∃ M, List.drop at_ (List.take k s) = M := ⟨_, rfl⟩
          have HT := Lib.hid (show (s.drop at_).takeWhile numB = M by rw [← hM]; exact take_at KD.out HK.out.1 (by rw [HN.out]; exact hk))
          have HML := Lib.hid (show M.length ≤ 65536 by rw [← hM, List.length_drop, List.length_take]; have := HS.out; omega)
          have hMs : List.drop at_ (List.take k s) = M := hM
          clear hM
          go_wp2_with fail
          refine (refwhole_calls M wr HML.out).mono ?_
          rintro e w3 ⟨rfl, rfl⟩
          obtain ⟨b1, hb1⟩ : ∃ b, (wholeF M).1 = b := ⟨_, rfl⟩
          obtain ⟨b2, hb2⟩ : ∃ b, (wholeF M).2 = b := ⟨_, rfl⟩
          rw [hb1, hb2]
          have HB1 := Lib.hid hb1
          have HB2 := Lib.hid hb2
          clear hb1 hb2
          cases b1 with
          | false =>
            obtain ⟨c0, c1, c2, c3, c4, c5, g0, g1, g2, g3, g4, g5⟩ := cells6 hZ.out
            go_wp2_with fail
            exact bodyPost_ret (res_cell3 rfl _ ⟨w.heap.size, 0, none⟩ _ (.int .i64 0) (.int .i64 4) _ rfl rfl rfl (Blk.load (blk6 hZ.out) _ Tryz.underlying25 rfl size_valS)) rfl ⟨below6 hB.out (Nat.le_refl _), .inl ⟨4, num_no HT.out (by rw [← whole_fst]; exact HB1.out), rfl⟩⟩
          | true =>
            go_wp2_with fail
            refine (atoin_calls M HML.out wr (ErrC.below HE.out hB.out HE.out.1)).mono ?_
            rintro e w4 ⟨b4, v, x, rfl, ⟨v0, v1⟩, hv⟩
            have HV := Lib.hid hv
            have HZ4 := Lib.hid (hZ.out.later b4)
            have HB4 := Lib.hid (hB.out.trans (b4.mono hB.out.size))
            have HV0 := Lib.hid (And.intro v0 v1)
            clear hv b4
            cases b2 with
            | true =>
              obtain ⟨c0, c1, c2, c3, c4, c5, g0, g1, g2, g3, g4, g5⟩ := cells6 HZ4.out
              go_wp2_with fail
              exact bodyPost_ret (res_cell3 rfl _ ⟨w.heap.size, 0, none⟩ _ (.int .i64 0) (.int .i64 7) _ rfl rfl rfl (Blk.load (blk6 HZ4.out) _ Tryz.underlying25 rfl size_valS)) rfl ⟨below6 HB4.out (Nat.le_refl _), .inl ⟨7, refnum_no HT.out HB1.out (.inl HB2.out) HV.out, rfl⟩⟩
            | false =>
              go_wp2_with fail
              refine (itoa_calls base v HV0.out.1 HV0.out.2 w4 (HTB.out.blw (HB4.out.mono hbase.out))).mono ?_
              rintro e w5 ⟨rfl, b5⟩
              have HZ5 := Lib.hid (HZ4.out.later b5)
              have HB5 := Lib.hid (HB4.out.trans (b5.mono HB4.out.size))
              clear b5
              obtain ⟨c0, c1, c2, c3, c4, c5, g0, g1, g2, g3, g4, g5⟩ := cells6 HZ5.out
              by_cases he : Lib.itoa v = M
              · have q1 : (Lib.itoa v == M) = true := beq_iff_eq.2 he
                by_cases h1 : 9007199254740991 < v
                · have q2 : decide (9007199254740991 < v) = true := decide_eq_true h1
                  go_wp2_with fail
                  exact bodyPost_ret (res_cell3 rfl _ ⟨w.heap.size, 0, none⟩ _ (.int .i64 0) (.int .i64 7) _ rfl rfl rfl (Blk.load (blk6 HZ5.out) _ Tryz.underlying25 rfl size_valS)) rfl ⟨below6 HB5.out (Nat.le_refl _), .inl ⟨7, refnum_no HT.out HB1.out (.inr (.inr (.inl h1))) HV.out, rfl⟩⟩
                · have q2 : decide (9007199254740991 < v) = false := decide_eq_false h1
                  by_cases h2 : v < -9007199254740991
                  · have q3 : decide (v < -9007199254740991) = true := decide_eq_true h2
                    go_wp2_with fail
                    exact bodyPost_ret (res_cell3 rfl _ ⟨w.heap.size, 0, none⟩ _ (.int .i64 0) (.int .i64 7) _ rfl rfl rfl (Blk.load (blk6 HZ5.out) _ Tryz.underlying25 rfl size_valS)) rfl ⟨below6 HB5.out (Nat.le_refl _), .inl ⟨7, refnum_no HT.out HB1.out (.inr (.inr (.inr h2))) HV.out, rfl⟩⟩
                  · have q3 : decide (v < -9007199254740991) = false := decide_eq_false h2
                    go_wp2_with fail
                    exact bodyPost_ret (res_cell3 rfl _ ⟨w.heap.size, 0, none⟩ _ (.int .i64 (k : Int)) (.int .i64 0) _ rfl rfl rfl (Blk.load (blk6 HZ5.out) _ Tryz.underlying25 rfl size_valS)) rfl ⟨below6 HB5.out (Nat.le_refl _), .inr ⟨⟨2, false, v, [], .nil, .nil⟩, k, none, none, 0, 0, 0, 0, by rw [refnum_ok HT.out HB1.out he (by omega) (by omega) HV.out, KD.out], by rw [HN.out]; exact hk, rfl, VNs.leaf _ _ ⟨(show (-9223372036854775808 : Int) ≤ 2 ∧ (2 : Int) ≤ 9223372036854775807 by decide), HV0.out, Nat.zero_le _⟩⟩⟩
              · have q1 : (Lib.itoa v == M) = false := beq_eq_false_iff_ne.2 he
                go_wp2_with fail
                exact bodyPost_ret (res_cell3 rfl _ ⟨w.heap.size, 0, none⟩ _ (.int .i64 0) (.int .i64 7) _ rfl rfl rfl (Blk.load (blk6 HZ5.out) _ Tryz.underlying25 rfl size_valS)) rfl ⟨below6 HB5.out (Nat.le_refl _), .inl ⟨7, refnum_no HT.out HB1.out (.inr (.inl he)) HV.out, rfl⟩⟩
        · have q3 : ¬ (48 : Int) ≤ (z : Int) := by omega
          have q1 : decide ((48 : Int) ≤ (z : Int)) = false := by simp; omega
          clear hnd h48
          obtain ⟨M, hM⟩ : ∃ M, List.drop at_ (List.take k s) = M := ⟨_, rfl⟩
          have HT := Lib.hid (show (s.drop at_).takeWhile numB = M by rw [← hM]; exact take_at KD.out HK.out.1 (by rw [HN.out]; exact hk))
          have HML := Lib.hid (show M.length ≤ 65536 by rw [← hM, List.length_drop, List.length_take]; have := HS.out; omega)
          have hMs : List.drop at_ (List.take k s) = M := hM
          clear hM
          go_wp2_with fail
          refine (refwhole_calls M wr HML.out).mono ?_
          rintro e w3 ⟨rfl, rfl⟩
          obtain ⟨b1, hb1⟩ : ∃ b, (wholeF M).1 = b := ⟨_, rfl⟩
          obtain ⟨b2, hb2⟩ : ∃ b, (wholeF M).2 = b := ⟨_, rfl⟩
          rw [hb1, hb2]
          have HB1 := Lib.hid hb1
          have HB2 := Lib.hid hb2
          clear hb1 hb2
          cases b1 with
          | false =>
            obtain ⟨c0, c1, c2, c3, c4, c5, g0, g1, g2, g3, g4, g5⟩ := cells6 hZ.out
            go_wp2_with fail
            exact bodyPost_ret (res_cell3 rfl _ ⟨w.heap.size, 0, none⟩ _ (.int .i64 0) (.int .i64 4) _ rfl rfl rfl (Blk.load (blk6 hZ.out) _ Tryz.underlying25 rfl size_valS)) rfl ⟨below6 hB.out (Nat.le_refl _), .inl ⟨4, num_no HT.out (by rw [← whole_fst]; exact HB1.out), rfl⟩⟩
          | true =>
            go_wp2_with fail
            refine (atoin_calls M HML.out wr (ErrC.below HE.out hB.out HE.out.1)).mono ?_
            rintro e w4 ⟨b4, v, x, rfl, ⟨v0, v1⟩, hv⟩
            have HV := Lib.hid hv
            have HZ4 := Lib.hid (hZ.out.later b4)
            have HB4 := Lib.hid (hB.out.trans (b4.mono hB.out.size))
            have HV0 := Lib.hid (And.intro v0 v1)
            clear hv b4
            cases b2 with
            | true =>
              obtain ⟨c0, c1, c2, c3, c4, c5, g0, g1, g2, g3, g4, g5⟩ := cells6 HZ4.out
              go_wp2_with fail
              exact bodyPost_ret (res_cell3 rfl _ ⟨w.heap.size, 0, none⟩ _ (.int .i64 0) (.int .i64 7) _ rfl rfl rfl (Blk.load (blk6 HZ4.out) _ Tryz.underlying25 rfl size_valS)) rfl ⟨below6 HB4.out (Nat.le_refl _), .inl ⟨7, refnum_no HT.out HB1.out (.inl HB2.out) HV.out, rfl⟩⟩
            | false =>
              go_wp2_with fail
              refine (itoa_calls base v HV0.out.1 HV0.out.2 w4 (HTB.out.blw (HB4.out.mono hbase.out))).mono ?_
              rintro e w5 ⟨rfl, b5⟩
              have HZ5 := Lib.hid (HZ4.out.later b5)
              have HB5 := Lib.hid (HB4.out.trans (b5.mono HB4.out.size))
              clear b5
              obtain ⟨c0, c1, c2, c3, c4, c5, g0, g1, g2, g3, g4, g5⟩ := cells6 HZ5.out
              by_cases he : Lib.itoa v = M
              · have q1 : (Lib.itoa v == M) = true := beq_iff_eq.2 he
                by_cases h1 : 9007199254740991 < v
                · have q2 : decide (9007199254740991 < v) = true := decide_eq_true h1
                  go_wp2_with fail
                  exact bodyPost_ret (res_cell3 rfl _ ⟨w.heap.size, 0, none⟩ _ (.int .i64 0) (.int .i64 7) _ rfl rfl rfl (Blk.load (blk6 HZ5.out) _ Tryz.underlying25 rfl size_valS)) rfl ⟨below6 HB5.out (Nat.le_refl _), .inl ⟨7, refnum_no HT.out HB1.out (.inr (.inr (.inl h1))) HV.out, rfl⟩⟩
                · have q2 : decide (9007199254740991 < v) = false := decide_eq_false h1
                  by_cases h2 : v < -9007199254740991
                  · have q3 : decide (v < -9007199254740991) = true := decide_eq_true h2
                    go_wp2_with fail
                    exact bodyPost_ret (res_cell3 rfl _ ⟨w.heap.size, 0, none⟩ _ (.int .i64 0) (.int .i64 7) _ rfl rfl rfl (Blk.load (blk6 HZ5.out) _ Tryz.underlying25 rfl size_valS)) rfl ⟨below6 HB5.out (Nat.le_refl _), .inl ⟨7, refnum_no HT.out HB1.out (.inr (.inr (.inr h2))) HV.out, rfl⟩⟩
                  · have q3 : decide (v < -9007199254740991) = false := decide_eq_false h2
                    go_wp2_with fail
                    exact bodyPost_ret (res_cell3 rfl _ ⟨w.heap.size, 0, none⟩ _ (.int .i64 (k : Int)) (.int .i64 0) _ rfl rfl rfl (Blk.load (blk6 HZ5.out) _ Tryz.underlying25 rfl size_valS)) rfl ⟨below6 HB5.out (Nat.le_refl _), .inr ⟨⟨2, false, v, [], .nil, .nil⟩, k, none, none, 0, 0, 0, 0, by rw [refnum_ok HT.out HB1.out he (by omega) (by omega) HV.out, KD.out], by rw [HN.out]; exact hk, rfl, VNs.leaf _ _ ⟨(show (-9223372036854775808 : Int) ≤ 2 ∧ (2 : Int) ≤ 9223372036854775807 by decide), HV0.out, Nat.zero_le _⟩⟩⟩
              · have q1 : (Lib.itoa v == M) = false := beq_eq_false_iff_ne.2 he
                go_wp2_with fail
                exact bodyPost_ret (res_cell3 rfl _ ⟨w.heap.size, 0, none⟩ _ (.int .i64 0) (.int .i64 7) _ rfl rfl rfl (Blk.load (blk6 HZ5.out) _ Tryz.underlying25 rfl size_valS)) rfl ⟨below6 HB5.out (Nat.le_refl _), .inl ⟨7, refnum_no HT.out HB1.out (.inr (.inl he)) HV.out, rfl⟩⟩
    · have hk2 : ¬ (k : Int) < (n : Int) := by omega
      have KD := Lib.hid (show (s.drop at_).dropWhile numB = s.drop k by
        have hd : s.drop k = [] := List.drop_of_length_le (by rw [HN.out]; omega)
        rw [HK.out.2, hd]; rfl)
      obtain ⟨M, hM⟩ : ∃ M, List.drop at_ (List.take k s) = M := ⟨_, rfl⟩
      have HT := Lib.hid (show (s.drop at_).takeWhile numB = M by rw [← hM]; exact take_at KD.out HK.out.1 (by rw [HN.out]; exact hk))
      have HML := Lib.hid (show M.length ≤ 65536 by rw [← hM, List.length_drop, List.length_take]; have := HS.out; omega)
      have hMs : List.drop at_ (List.take k s) = M := hM
      clear hM
      go_wp2_with fail
      refine (refwhole_calls M wr HML.out).mono ?_
      rintro e w3 ⟨rfl, rfl⟩
      obtain ⟨b1, hb1⟩ : ∃ b, (wholeF M).1 = b := ⟨_, rfl⟩
      obtain ⟨b2, hb2⟩ : ∃ b, (wholeF M).2 = b := ⟨_, rfl⟩
      rw [hb1, hb2]
      have HB1 := Lib.hid hb1
      have HB2 := Lib.hid hb2
      clear hb1 hb2
      cases b1 with
      | false =>
        obtain ⟨c0, c1, c2, c3, c4, c5, g0, g1, g2, g3, g4, g5⟩ := cells6 hZ.out
        go_wp2_with fail
        exact bodyPost_ret (res_cell3 rfl _ ⟨w.heap.size, 0, none⟩ _ (.int .i64 0) (.int .i64 4) _ rfl rfl rfl (Blk.load (blk6 hZ.out) _ Tryz.underlying25 rfl size_valS)) rfl ⟨below6 hB.out (Nat.le_refl _), .inl ⟨4, num_no HT.out (by rw [← whole_fst]; exact HB1.out), rfl⟩⟩
      | true =>
        go_wp2_with fail
        refine (atoin_calls M HML.out wr (ErrC.below HE.out hB.out HE.out.1)).mono ?_
        rintro e w4 ⟨b4, v, x, rfl, ⟨v0, v1⟩, hv⟩
        have HV := Lib.hid hv
        have HZ4 := Lib.hid (hZ.out.later b4)
        have HB4 := Lib.hid (hB.out.trans (b4.mono hB.out.size))
        have HV0 := Lib.hid (And.intro v0 v1)
        clear hv b4
        cases b2 with
        | true =>
          obtain ⟨c0, c1, c2, c3, c4, c5, g0, g1, g2, g3, g4, g5⟩ := cells6 HZ4.out
          go_wp2_with fail
          exact bodyPost_ret (res_cell3 rfl _ ⟨w.heap.size, 0, none⟩ _ (.int .i64 0) (.int .i64 7) _ rfl rfl rfl (Blk.load (blk6 HZ4.out) _ Tryz.underlying25 rfl size_valS)) rfl ⟨below6 HB4.out (Nat.le_refl _), .inl ⟨7, refnum_no HT.out HB1.out (.inl HB2.out) HV.out, rfl⟩⟩
        | false =>
          go_wp2_with fail
          refine (itoa_calls base v HV0.out.1 HV0.out.2 w4 (HTB.out.blw (HB4.out.mono hbase.out))).mono ?_
          rintro e w5 ⟨rfl, b5⟩
          have HZ5 := Lib.hid (HZ4.out.later b5)
          have HB5 := Lib.hid (HB4.out.trans (b5.mono HB4.out.size))
          clear b5
          obtain ⟨c0, c1, c2, c3, c4, c5, g0, g1, g2, g3, g4, g5⟩ := cells6 HZ5.out
          by_cases he : Lib.itoa v = M
          · have q1 : (Lib.itoa v == M) = true := beq_iff_eq.2 he
            by_cases h1 : 9007199254740991 < v
            · have q2 : decide (9007199254740991 < v) = true := decide_eq_true h1
              go_wp2_with fail
              exact bodyPost_ret (res_cell3 rfl _ ⟨w.heap.size, 0, none⟩ _ (.int .i64 0) (.int .i64 7) _ rfl rfl rfl (Blk.load (blk6 HZ5.out) _ Tryz.underlying25 rfl size_valS)) rfl ⟨below6 HB5.out (Nat.le_refl _), .inl ⟨7, refnum_no HT.out HB1.out (.inr (.inr (.inl h1))) HV.out, rfl⟩⟩
            · have q2 : decide (9007199254740991 < v) = false := decide_eq_false h1
              by_cases h2 : v < -9007199254740991
              · have q3 : decide (v < -9007199254740991) = true := decide_eq_true h2
                go_wp2_with fail
                exact bodyPost_ret (res_cell3 rfl _ ⟨w.heap.size, 0, none⟩ _ (.int .i64 0) (.int .i64 7) _ rfl rfl rfl (Blk.load (blk6 HZ5.out) _ Tryz.underlying25 rfl size_valS)) rfl ⟨below6 HB5.out (Nat.le_refl _), .inl ⟨7, refnum_no HT.out HB1.out (.inr (.inr (.inr h2))) HV.out, rfl⟩⟩
              · have q3 : decide (v < -9007199254740991) = false := decide_eq_false h2
                go_wp2_with fail
                exact bodyPost_ret (res_cell3 rfl _ ⟨w.heap.size, 0, none⟩ _ (.int .i64 (k : Int)) (.int .i64 0) _ rfl rfl rfl (Blk.load (blk6 HZ5.out) _ Tryz.underlying25 rfl size_valS)) rfl ⟨below6 HB5.out (Nat.le_refl _), .inr ⟨⟨2, false, v, [], .nil, .nil⟩, k, none, none, 0, 0, 0, 0, by rw [refnum_ok HT.out HB1.out he (by omega) (by omega) HV.out, KD.out], by rw [HN.out]; exact hk, rfl, VNs.leaf _ _ ⟨(show (-9223372036854775808 : Int) ≤ 2 ∧ (2 : Int) ≤ 9223372036854775807 by decide), HV0.out, Nat.zero_le _⟩⟩⟩
          · have q1 : (Lib.itoa v == M) = false := beq_eq_false_iff_ne.2 he
            go_wp2_with fail
            exact bodyPost_ret (res_cell3 rfl _ ⟨w.heap.size, 0, none⟩ _ (.int .i64 0) (.int .i64 7) _ rfl rfl rfl (Blk.load (blk6 HZ5.out) _ Tryz.underlying25 rfl size_valS)) rfl ⟨below6 HB5.out (Nat.le_refl _), .inl ⟨7, refnum_no HT.out HB1.out (.inr (.inl he)) HV.out, rfl⟩⟩
end Go.Proofs.YtajkgcmopmpihaaGreatDoor
namespace Go.Proofs.YtajkgcmopmpihaaGreatDoor
open Go.Lib
set_option linter.unusedVariables false
def listF (deep : Nat) (r : List UInt8) : PRes := match skipB r with | [] => pL .nil deep r | d :: q2 => if d = 93 then .ok (lstV .nil, q2) else pL .nil deep r
def tabF (deep : Nat) (r : List UInt8) : PRes := match skipB r with | [] => pT .nil deep r | d :: q2 => if d = 125 then .ok (mapV .nil, q2) else pT .nil deep r
theorem drop_more (s : List UInt8) (k j : Nat) : s.drop (k + j) = (s.drop k).drop j := by rw [List.drop_drop]
theorem pre_at {s t : List UInt8} {k : Nat} (h : t <+: s.drop k) (hk : k ≤ s.length) : ∃ rest, s.drop k = t ++ rest ∧ s.drop (k + t.length) = rest ∧ k + t.length ≤ s.length := by
  obtain ⟨rest, hr⟩ := h
  refine ⟨rest, hr.symm, ?_, ?_⟩
  · rw [drop_more, ← hr]; exact List.drop_left
  · have := congrArg List.length hr
    rw [List.length_append, List.length_drop] at this
    omega
section
variable {s : List UInt8} {a k deep : Nat}
theorem tk_null (hs : s.drop k = skipB (s.drop a)) (hk : k ≤ s.length) (h : [110, 117, 108, 108] <+: s.drop k) : pV deep (s.drop a) = .ok (nullJ, s.drop (k + 4)) ∧ k + 4 ≤ s.length := by
  obtain ⟨rest, h1, h2, h3⟩ := pre_at h hk
  refine ⟨?_, h3⟩
  rw [pV_eq, ← hs, h1, show s.drop (k + 4) = rest from h2]
  exact pC_null deep rest
theorem tk_true (hs : s.drop k = skipB (s.drop a)) (hk : k ≤ s.length) (h : [116, 114, 117, 101] <+: s.drop k) : pV deep (s.drop a) = .ok (⟨1, true, 0, [], .nil, .nil⟩, s.drop (k + 4)) ∧ k + 4 ≤ s.length := by
  obtain ⟨rest, h1, h2, h3⟩ := pre_at h hk
  refine ⟨?_, h3⟩
  rw [pV_eq, ← hs, h1, show s.drop (k + 4) = rest from h2]
  exact pC_true deep rest
theorem tk_false (hs : s.drop k = skipB (s.drop a)) (hk : k ≤ s.length) (h : [102, 97, 108, 115, 101] <+: s.drop k) : pV deep (s.drop a) = .ok (⟨1, false, 0, [], .nil, .nil⟩, s.drop (k + 5)) ∧ k + 5 ≤ s.length := by
  obtain ⟨rest, h1, h2, h3⟩ := pre_at h hk
  refine ⟨?_, h3⟩
  rw [pV_eq, ← hs, h1, show s.drop (k + 5) = rest from h2]
  exact pC_false deep rest
theorem tk_quo (hs : s.drop k = skipB (s.drop a)) (hk : k ≤ s.length) (h : [34] <+: s.drop k) : takeF s (k : Int) = fin (k + 1) (scan (s.drop (k + 1))) ∧ k + 1 ≤ s.length ∧
    pV deep (s.drop a) = (match scan (s.drop (k + 1)) with | none => .error 4 | some p => .ok (⟨3, false, 0, p.1, .nil, .nil⟩, s.drop (k + 1 + p.2))) := by
  obtain ⟨rest, h1, h2, h3⟩ := pre_at h hk
  have h2 : s.drop (k + 1) = rest := h2
  have h3 : k + 1 ≤ s.length := h3
  refine ⟨takeF_in s k h3 ?_, h3, ?_⟩
  · have := congrArg List.head? h1
    rw [List.head?_drop] at this
    rw [List.getD_eq_getElem?_getD, this]; rfl
  · rw [pV_eq, ← hs, h1, h2]
    show pC deep 34 rest = _
    unfold pC
    rw [if_neg (by decide), if_neg (by decide), if_pos rfl]
    cases hx : scan rest with
    | none => rfl
    | some p => dsimp only; rw [drop_more, h2]
theorem tk_lst (hs : s.drop k = skipB (s.drop a)) (hk : k ≤ s.length) (h : [91] <+: s.drop k) : pV deep (s.drop a) = (if deep = 32 then .error 5 else listF (deep + 1) (s.drop (k + 1))) ∧ k + 1 ≤ s.length := by
  obtain ⟨rest, h1, h2, h3⟩ := pre_at h hk
  refine ⟨?_, h3⟩
  rw [pV_eq, ← hs, h1, show s.drop (k + 1) = rest from h2]
  show pC deep 91 rest = _
  unfold pC
  rw [if_pos rfl]; rfl
theorem tk_tab (hs : s.drop k = skipB (s.drop a)) (hk : k ≤ s.length) (h : [123] <+: s.drop k) : pV deep (s.drop a) = (if deep = 32 then .error 5 else tabF (deep + 1) (s.drop (k + 1))) ∧ k + 1 ≤ s.length := by
  obtain ⟨rest, h1, h2, h3⟩ := pre_at h hk
  refine ⟨?_, h3⟩
  rw [pV_eq, ← hs, h1, show s.drop (k + 1) = rest from h2]
  show pC deep 123 rest = _
  unfold pC
  rw [if_neg (by decide), if_pos rfl]; rfl
theorem numP_bad {c : UInt8} {q : List UInt8} (h : ¬ (c = 45 ∨ digB c = true)) : numP (c :: q) = .error 4 := by
  unfold numP
  have : (wholeF ((c :: q).takeWhile numB)).1 = false := by
    by_cases hn : numB c = true
    · rw [List.takeWhile_cons, if_pos hn]
      unfold wholeF signF
      dsimp only
      rw [if_neg (fun e => h (.inl e)), List.takeWhile_cons, if_neg (fun e => h (.inr e))]
      rfl
    · rw [List.takeWhile_cons, if_neg hn]; rfl
  rw [if_pos this]
theorem tk_else (hs : s.drop k = skipB (s.drop a)) (n1 : ¬ [110, 117, 108, 108] <+: s.drop k) (n2 : ¬ [116, 114, 117, 101] <+: s.drop k) (n3 : ¬ [102, 97, 108, 115, 101] <+: s.drop k) (n4 : ¬ [34] <+: s.drop k) (n5 : ¬ [91] <+: s.drop k) (n6 : ¬ [123] <+: s.drop k) : pV deep (s.drop a) = numP (s.drop k) := by
  rw [pre_one] at n4 n5 n6
  rw [pV_eq, ← hs]
  cases hx : s.drop k with
  | nil => rfl
  | cons c q =>
    rw [hx] at n1 n2 n3 n4 n5 n6
    dsimp only
    unfold pC
    rw [if_neg (fun e => n5 (by rw [e]; rfl)), if_neg (fun e => n6 (by rw [e]; rfl)), if_neg (fun e => n4 (by rw [e]; rfl)), if_neg n1, if_neg n2, if_neg n3]
    by_cases h : c = 45 ∨ digB c = true
    · rw [if_pos h]
    · rw [if_neg h, numP_bad h]
end
end Go.Proofs.YtajkgcmopmpihaaGreatDoor
