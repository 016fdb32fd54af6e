/- Layer 8: the program's way to read an escape. -/
import Derived.Test.YtklghjeinempmaaQuT
import Derived.Test.YtklghjeinempmaaQuG
namespace Go.Proofs.Ytklghjeinempmaa
open Go.ChangeShapes Go.WideShapes Go.ChangeAt Go.RowKit Go.IntWalk
set_option linter.unusedVariables false

def digI (c : UInt8) : Int := match digV c with | none => -1 | some d => (d : Int)
theorem dig_low (c : UInt8) (x : Int) (w : World) (h : c.toNat < 128) (hx : x = (lowC c).toNat) :
    Calls Try.prog 20 #[.string ⟨#[48, 49, 50, 51, 52, 53, 54, 55, 56, 57, 97, 98, 99, 100, 101, 102]⟩, .int .i32 x] w fun e w' => e = .returned (.int .i64 (digI c)) ∧ w = w' := by
  subst hx
  have hl : (lowC c).toNat < 128 := by
    unfold lowC; split
    · simp; omega
    · exact h
  refine (Try.strings_IndexRune_ascii ⟨#[48, 49, 50, 51, 52, 53, 54, 55, 56, 57, 97, 98, 99, 100, 101, 102]⟩ (lowC c).toNat w (by omega) (by omega)).mono ?_
  rintro e w' ⟨rfl, rfl⟩
  refine ⟨?_, rfl⟩
  have : (((lowC c).toNat : Int).toNat.toUInt8) = lowC c := by simp
  rw [this]
  exact ret_int (dig_at c)
theorem dig_high (r : Nat) (w : World) (h0 : 128 ≤ r) (h1 : r ≤ 1114111) (hv : Utf8.valid (r : Int) = true) :
    Calls Try.prog 20 #[.string ⟨#[48, 49, 50, 51, 52, 53, 54, 55, 56, 57, 97, 98, 99, 100, 101, 102]⟩, .int .i32 r] w fun e w' => e = .returned (.int .i64 (-1)) ∧ Below w.heap.size w w' :=
  indexRune_hi [48, 49, 50, 51, 52, 53, 54, 55, 56, 57, 97, 98, 99, 100, 101, 102] r w (by decide) (by decide) ⟨by omega, by omega⟩ hv

def NumPost (o : Option Nat) (w : World) (e : Ending) (w' : World) : Prop := e = .returned (.tuple #[.int .i32 ((o.getD 0 : Nat) : Int), .bool o.isSome]) ∧ Below w.heap.size w w'
theorem NumPost.no {o : Option Nat} {w w' : World} (h : o = none) (hb : Below w.heap.size w w') : NumPost o w (.returned (.tuple #[.int .i32 0, .bool false])) w' := by subst h; exact ⟨rfl, hb⟩
theorem NumPost.yes {o : Option Nat} {n : Nat} {w w' : World} (h : o = some n) (hb : Below w.heap.size w w') : NumPost o w (.returned (.tuple #[.int .i32 (n : Nat), .bool true])) w' := by subst h; exact ⟨rfl, hb⟩
theorem six (m : List UInt8) (h : 6 ≤ m.length) : ∃ a b c d e f t, m = a :: b :: c :: d :: e :: f :: t := by
  match m, h with
  | a :: b :: c :: d :: e :: f :: t, _ => exact ⟨a, b, c, d, e, f, t, rfl⟩
theorem hexF_six (a b c d e f : UInt8) (t : List UInt8) : hexF (a :: b :: c :: d :: e :: f :: t) = if a = 92 ∧ b = 117 then hexN 0 [c, d, e, f] else none := by
  unfold hexF
  have : 6 ≤ (a :: b :: c :: d :: e :: f :: t).length := by simp
  by_cases h : a = 92 ∧ b = 117
  · rw [if_pos h, if_pos ⟨this, h.1, h.2⟩]; rfl
  · rw [if_neg h, if_neg (fun x => h ⟨x.2.1, x.2.2⟩)]
theorem neq8 (c d : UInt8) (h : c ≠ d) : ((c.toNat : Int) == (d.toNat : Int)) = false := by
  rw [beq_eq_false_iff_ne]; intro h2; exact h (UInt8.toNat_inj.1 (by omega))

theorem or4 (acc d : Nat) (ha : acc < 65536) (hd : d < 16) : bits .or .i32 ((acc : Int) * 16) (d : Int) = ((16 * acc + d : Nat) : Int) := by
  have h := (bits_nat .i32 31 (by decide) (fun n h0 h1 => by rw [IntKind.wrap_i32]; omega) (acc * 16) d (by omega) (by omega)).2
  have e : ((acc * 16 : Nat) : Int) = (acc : Int) * 16 := by omega
  rw [e] at h
  rw [h]
  congr 1
  have := Nat.shiftLeft_add_eq_or_of_lt (i := 4) (b := d) (by omega) acc
  rw [Nat.shiftLeft_eq] at this
  rw [show acc * 16 = acc * 2 ^ 4 from rfl, ← this]; omega
theorem num_end (w : World) (q : List UInt8) (k acc d : Nat) (X : Option Nat) (s : List UInt8) (hp : k < q.length) (hq : q.length = 4) (ha : acc < 16 ^ k) (hd : d < 16) (hs : q.drop (k + 1) = s) (hx : X = hexN (16 * acc + d) s) :
    (∃ k1 acc1 : Nat, k1 ≤ 4 ∧ acc1 < 16 ^ k1 ∧ Value.int IntKind.i32 (bits BinOp.or IntKind.i32 ((acc : Int) * 16) (d : Int)) = Value.int IntKind.i32 (acc1 : Int) ∧
      w.iter ⟨q.toArray⟩ (k + 1) = w.iter ⟨q.toArray⟩ k1 ∧ Hid (X = hexN acc1 (q.drop k1))) ∧ 4 - (w.iter ⟨q.toArray⟩ (k + 1)).iterPos w.heap.size < 4 - (w.iter ⟨q.toArray⟩ k).iterPos w.heap.size := by
  have h4 : 16 ^ (k + 1) = 16 ^ k * 16 := Nat.pow_succ ..
  have : k = 0 ∨ k = 1 ∨ k = 2 ∨ k = 3 := by omega
  have ha2 : acc < 65536 := by rcases this with rfl | rfl | rfl | rfl <;> omega
  refine ⟨⟨k + 1, 16 * acc + d, by omega, by omega, by rw [or4 acc d ha2 hd], rfl, ?_⟩, ?_⟩
  · rw [hs]; exact hx
  · simp; omega

set_option maxRecDepth 100000 in
set_option maxHeartbeats 2000000 in
theorem number_calls (m : List UInt8) (w : World) (hl : m.length ≤ 1000000) :
    Calls Try.prog 35 #[.string ⟨m.toArray⟩] w (NumPost (hexF m) w) := by
  by_cases h6 : m.length < 6
  · have HE : Hid (hexF m = none) := by show _ = _; unfold hexF; rw [if_neg (by omega)]
    go_enter Try.func35, Try.ntmps35
    go_wp2
    go_ret2
    exact NumPost.no HE.out (Below.refl _ _)
  · obtain ⟨a, b, c0, c1, c2, c3, t, rfl⟩ := six m (by omega)
    have HX := Lib.hid (hexF_six a b c0 c1 c2 c3 t)
    by_cases ha : a = 92
    · subst ha
      by_cases hb : b = 117
      · subst hb
        obtain ⟨q, hq⟩ : ∃ q : List UInt8, [c0, c1, c2, c3] = q := ⟨_, rfl⟩
        have hql : q.length = 4 := by rw [← hq]; rfl
        have HE : Hid (hexF (92 :: 117 :: c0 :: c1 :: c2 :: c3 :: t) = hexN 0 q) := by show _ = _; rw [HX.out, hq]; rfl
        go_enter Try.func35, Try.ntmps35
        have HQ := Lib.hid hq
        go_wp2_with fail
        clear hq HX
        go_loopw [4] (fun n wr => ∃ k acc : Nat, k ≤ 4 ∧ acc < 16 ^ k ∧ n = .int .i32 acc ∧ wr = w.iter ⟨q.toArray⟩ k ∧ Hid (hexF (92 :: 117 :: c0 :: c1 :: c2 :: c3 :: t) = hexN acc (q.drop k))) (fun _ wr => 4 - wr.iterPos w.heap.size)
        case atStart => exact ⟨0, 0, by omega, by decide, rfl, rfl, HE⟩
        case round =>
          obtain ⟨k, acc, hk, hacc, rfl, rfl, hv⟩ := hrel
          by_cases hp : k < q.length
          · have hnx := fun ty => run_next_any (P := Try.prog) w ⟨q.toArray⟩ k ty hp
            have hdl : Utf8.decode ⟨q.toArray⟩ k = Lib.decodeL (q.drop k) := (Lib.decodeL_drop ⟨q.toArray⟩ k).symm
            rw [hdl] at hnx
            clear hdl
            obtain ⟨c, hc⟩ : ∃ c, q[k] = c := ⟨_, rfl⟩
            obtain ⟨s, hs⟩ : ∃ s, q.drop (k + 1) = s := ⟨_, rfl⟩
            have hm : q.drop k = c :: s := by rw [List.drop_eq_getElem_cons hp, hc, hs]
            have hcl := c.toNat_lt
            rw [hm] at hnx hv
            have HS := Lib.hid hs
            clear hm hc hs
            have ha : acc < 4096 := by
              have : k = 0 ∨ k = 1 ∨ k = 2 ∨ k = 3 := by omega
              rcases this with rfl | rfl | rfl | rfl <;> omega
            by_cases hlow : c.toNat < 128
            · have hd := Lib.decodeL_ascii c s hlow
              rw [hd] at hnx
              simp only at hnx
              clear hd
              by_cases hup : 65 ≤ c.toNat ∧ c.toNat ≤ 70
              · have hx : ((c.toNat : Int) + 32) = (lowC c).toNat := by unfold lowC; rw [if_pos hup]; simp; omega
                have HX := Lib.hid hx
                clear hx
                go_wp2_with fail
                refine (dig_low c _ _ hlow HX.out).mono ?_
                rintro e w1 ⟨rfl, rfl⟩
                cases hd : digV c with
                | none =>
                  have hdi : digI c = -1 := by unfold digI; rw [hd]
                  have HE2 : Hid (hexF (92 :: 117 :: c0 :: c1 :: c2 :: c3 :: t) = none) := hv.out.trans (hexN_none hd)
                  rw [hdi]
                  clear hd hdi
                  go_wp2
                  go_ret2
                  exact NumPost.no HE2.out ((Below.refl _ _).alloc (Nat.le_refl _) _)
                | some d =>
                  have hdi : digI c = d := by unfold digI; rw [hd]
                  have hdl := (digV_lt hd).1
                  have HE2 : Hid (hexF (92 :: 117 :: c0 :: c1 :: c2 :: c3 :: t) = hexN (16 * acc + d) s) := hv.out.trans (hexN_some hd)
                  rw [hdi]
                  clear hd hdi
                  go_wp2_with fail
                  exact num_end w q k acc d _ s hp hql hacc hdl HS.out HE2.out
              · have hx : (c.toNat : Int) = (lowC c).toNat := by unfold lowC; rw [if_neg hup]
                have HX := Lib.hid hx
                clear hx
                have hparts : ((65 : Int) ≤ (c.toNat : Int) ∧ ¬ (c.toNat : Int) ≤ 70) ∨ ¬ (65 : Int) ≤ (c.toNat : Int) := by omega
                have HUP := Lib.hid hup
                clear hup
                rcases hparts with ⟨g1, g2⟩ | g1
                all_goals
                  go_wp2_with fail
                  refine (dig_low c _ _ hlow HX.out).mono ?_
                  rintro e w1 ⟨rfl, rfl⟩
                  cases hd : digV c with
                  | none =>
                    have hdi : digI c = -1 := by unfold digI; rw [hd]
                    have HE2 : Hid (hexF (92 :: 117 :: c0 :: c1 :: c2 :: c3 :: t) = none) := hv.out.trans (hexN_none hd)
                    rw [hdi]
                    clear hd hdi
                    go_wp2
                    go_ret2
                    exact NumPost.no HE2.out ((Below.refl _ _).alloc (Nat.le_refl _) _)
                  | some d =>
                    have hdi : digI c = d := by unfold digI; rw [hd]
                    have hdl := (digV_lt hd).1
                    have HE2 : Hid (hexF (92 :: 117 :: c0 :: c1 :: c2 :: c3 :: t) = hexN (16 * acc + d) s) := hv.out.trans (hexN_some hd)
                    rw [hdi]
                    clear hd hdi
                    go_wp2_with fail
                    exact num_end w q k acc d _ s hp hql hacc hdl HS.out HE2.out
            · obtain ⟨h1, h2, h3⟩ := rune_hi c s (by omega)
              obtain ⟨⟨r, d⟩, hrd⟩ : ∃ p, Lib.decodeL (c :: s) = p := ⟨_, rfl⟩
              rw [hrd] at hnx h1 h2 h3
              simp only at hnx h1 h2 h3
              clear hrd
              have n00 : decide ((65 : Int) ≤ (r : Int)) = true := decide_eq_true (by omega)
              have n0 : decide ((r : Int) ≤ 70) = false := decide_eq_false (by omega)
              have HE2 : Hid (hexF (92 :: 117 :: c0 :: c1 :: c2 :: c3 :: t) = none) := hv.out.trans (hexN_none (dig_hi c (by omega)))
              have H3 := Lib.hid h3
              have H1 := Lib.hid h1
              have H2 := Lib.hid h2
              clear h1 h2 h3 hv hlow hacc
              go_wp2_with fail
              refine (dig_high r _ H1.out H2.out H3.out).mono ?_
              rintro e w1 ⟨rfl, b1⟩
              go_wp2
              go_ret2
              exact NumPost.no HE2.out (((Below.refl _ _).alloc (Nat.le_refl _) _).then_ b1)
          · have hnx := fun ty => run_next_end (P := Try.prog) w ⟨q.toArray⟩ k ty hp
            have HE2 : Hid (hexF (92 :: 117 :: c0 :: c1 :: c2 :: c3 :: t) = some acc) := by
              show _ = _
              rw [hv.out, List.drop_of_length_le (by omega)]; rfl
            go_wp2
            go_ret2
            exact NumPost.yes HE2.out ((Below.refl _ _).alloc (Nat.le_refl _) _)
      · have n1 : ((b.toNat : Int) != 117) = true := by rw [bne_iff_ne]; intro h; exact hb (UInt8.toNat_inj.1 (by have : (117 : UInt8).toNat = 117 := rfl; omega))
        have HE : Hid (hexF (92 :: b :: c0 :: c1 :: c2 :: c3 :: t) = none) := HX.out.trans (if_neg fun h => hb h.2)
        go_enter Try.func35, Try.ntmps35
        go_wp2
        go_ret2
        exact NumPost.no HE.out (Below.refl _ _)
    · have n1 : ((a.toNat : Int) != 92) = true := by rw [bne_iff_ne]; intro h; exact ha (UInt8.toNat_inj.1 (by have : (92 : UInt8).toNat = 92 := rfl; omega))
      have HE : Hid (hexF (a :: b :: c0 :: c1 :: c2 :: c3 :: t) = none) := HX.out.trans (if_neg fun h => ha h.1)
      go_enter Try.func35, Try.ntmps35
      go_wp2
      go_ret2
      exact NumPost.no HE.out (Below.refl _ _)

def RunePost (p : Nat × Nat) (w : World) (e : Ending) (w' : World) : Prop := e = .returned (.tuple #[.int .i32 (p.1 : Nat), .int .i64 (p.2 : Nat)]) ∧ Below w.heap.size w w'
theorem RunePost.of {p q : Nat × Nat} {w w' : World} (h : q = p) (hb : Below w.heap.size w w') : RunePost q w (.returned (.tuple #[.int .i32 (p.1 : Nat), .int .i64 (p.2 : Nat)])) w' := by subst h; exact ⟨rfl, hb⟩

theorem pair_val (n k : Nat) (h : 55296 ≤ n ∧ n < 56320) (h2 : 56320 ≤ k ∧ k < 57344) :
    wrap32 (wrap32 (65536 + wrap32 (wrap32 ((n : Int) - 55296) * 1024)) + wrap32 ((k : Int) - 56320)) = ((65536 + 1024 * (n - 55296) + (k - 56320) : Nat) : Int) := by
  unfold wrap32; omega

set_option maxHeartbeats 2000000 in
theorem numbered_calls (m : List UInt8) (w : World) (hl : m.length ≤ 1000000) :
    Calls Try.prog 31 #[.string ⟨m.toArray⟩] w (RunePost (numF m) w) := by
  cases h1 : hexF m with
  | none =>
    have H1 := Lib.hid h1
    have HE : Hid (numF m = (0, 0)) := by show _ = _; unfold numF; rw [h1]
    clear h1
    go_enter Try.func31, Try.ntmps31
    go_wp2_with fail
    refine (number_calls m _ hl).mono ?_
    rw [H1.out]
    rintro e w1 ⟨rfl, b1⟩
    go_wp2
    go_ret2
    exact RunePost.of (p := (0, 0)) HE.out b1
  | some n =>
    obtain ⟨a1, a2, a3⟩ := hexF_some h1
    have H1 := Lib.hid h1
    clear a3
    by_cases c1 : 56320 ≤ n ∧ n < 57344
    · have HE : Hid (numF m = (0, 0)) := by show _ = _; unfold numF; rw [h1]; simp only []; rw [if_pos c1]
      clear h1
      have g1 : (56320 : Int) ≤ (n : Int) := by omega
      have g2 : (n : Int) < 57344 := by omega
      clear c1 a1
      go_enter Try.func31, Try.ntmps31
      go_wp2_with fail
      refine (number_calls m _ hl).mono ?_
      rw [H1.out]
      rintro e w1 ⟨rfl, b1⟩
      go_wp2
      go_ret2
      exact RunePost.of (p := (0, 0)) HE.out b1
    · by_cases c2 : n < 55296 ∨ 57344 ≤ n
      · have HE : Hid (numF m = (n, 6)) := by show _ = _; unfold numF; rw [h1]; simp only []; rw [if_neg c1, if_pos c2]
        clear h1
        have c3 : (decide ((56320 : Int) ≤ n) = false ∧ decide ((n : Int) < 55296) = true) ∨ ((decide ((56320 : Int) ≤ n) = true ∧ decide ((n : Int) < 57344) = false) ∧ decide ((n : Int) < 55296) = false ∧ decide ((57344 : Int) ≤ n) = true) := by
          simp only [decide_eq_true_eq, decide_eq_false_iff_not]; omega
        clear c1 c2 a1
        rcases c3 with ⟨g, g0⟩ | ⟨⟨g, g0⟩, g1, g2⟩
        all_goals
          go_enter Try.func31, Try.ntmps31
          go_wp2_with fail
          refine (number_calls m _ hl).mono ?_
          rw [H1.out]
          rintro e w1 ⟨rfl, b1⟩
          go_wp2
          go_ret2
          exact RunePost.of (p := (n, 6)) HE.out b1
      · have hml : (m.drop 6).length ≤ 1000000 := by rw [List.length_drop]; omega
        have g1 : decide ((56320 : Int) ≤ n) = false := decide_eq_false (by omega)
        have g2 : decide ((n : Int) < 55296) = false := decide_eq_false (by omega)
        have g3 : decide ((57344 : Int) ≤ n) = false := decide_eq_false (by omega)
        have HC := Lib.hid (And.intro c1 c2)
        clear c1 c2 a1
        cases h2 : hexF (m.drop 6) with
        | none =>
          have H2 := Lib.hid h2
          have HE : Hid (numF m = (0, 0)) := by show _ = _; unfold numF; rw [h1]; simp only []; rw [if_neg HC.out.1, if_neg HC.out.2, h2]
          clear h1 h2
          go_enter Try.func31, Try.ntmps31
          go_wp2_with fail
          refine (number_calls m _ hl).mono ?_
          rw [H1.out]
          rintro e w1 ⟨rfl, b1⟩
          go_wp2_with fail
          refine (number_calls (m.drop 6) _ hml).mono ?_
          rw [H2.out]
          rintro e w2 ⟨rfl, b2⟩
          go_wp2
          go_ret2
          exact RunePost.of (p := (0, 0)) HE.out (b1.then_ b2)
        | some k =>
          have H2 := Lib.hid h2
          by_cases c3 : 56320 ≤ k ∧ k < 57344
          · have HE : Hid (numF m = (65536 + 1024 * (n - 55296) + (k - 56320), 12)) := by show _ = _; unfold numF; rw [h1]; simp only []; rw [if_neg HC.out.1, if_neg HC.out.2, h2]; simp only []; rw [if_pos c3]
            clear h1 h2
            have g4 : decide ((k : Int) < 56320) = false := decide_eq_false (by omega)
            have g5 : decide ((57344 : Int) ≤ k) = false := decide_eq_false (by omega)
            have HP : Hid ((55296 ≤ n ∧ n < 56320) ∧ 56320 ≤ k ∧ k < 57344) := by show _ ∧ _; have := HC.out; omega
            clear c3
            go_enter Try.func31, Try.ntmps31
            go_wp2_with fail
            refine (number_calls m _ hl).mono ?_
            rw [H1.out]
            rintro e w1 ⟨rfl, b1⟩
            go_wp2_with fail
            refine (number_calls (m.drop 6) _ hml).mono ?_
            rw [H2.out]
            rintro e w2 ⟨rfl, b2⟩
            go_wp2
            go_ret2
            rw [pair_val n k HP.out.1 HP.out.2]
            exact RunePost.of (p := (65536 + 1024 * (n - 55296) + (k - 56320), 12)) HE.out (b1.then_ b2)
          · have HE : Hid (numF m = (0, 0)) := by show _ = _; unfold numF; rw [h1]; simp only []; rw [if_neg HC.out.1, if_neg HC.out.2, h2]; simp only []; rw [if_neg c3]
            have hk := (hexF_some h2).1
            have c4 : (decide ((k : Int) < 56320) = true) ∨ (decide ((k : Int) < 56320) = false ∧ decide ((57344 : Int) ≤ k) = true) := by simp only [decide_eq_true_eq, decide_eq_false_iff_not]; omega
            clear c3 hk h1 h2
            rcases c4 with g | ⟨g0, g⟩
            all_goals
              go_enter Try.func31, Try.ntmps31
              go_wp2_with fail
              refine (number_calls m _ hl).mono ?_
              rw [H1.out]
              rintro e w1 ⟨rfl, b1⟩
              go_wp2_with fail
              refine (number_calls (m.drop 6) _ hml).mono ?_
              rw [H2.out]
              rintro e w2 ⟨rfl, b2⟩
              go_wp2
              go_ret2
              exact RunePost.of (p := (0, 0)) HE.out (b1.then_ b2)

theorem ix_q (b : UInt8) (w : World) :
    Calls Try.prog 26 #[.string ⟨#[34, 92, 47]⟩, .int .u8 b.toNat] w fun e w' => e = .returned (.int .i64 (Lib.indexByte [34, 92, 47] b)) ∧ w = w' := by
  refine (Try.strings_IndexByte ⟨#[34, 92, 47]⟩ b.toNat w).mono ?_
  rintro e w' ⟨rfl, rfl⟩
  exact ⟨by simp, rfl⟩
theorem ix_s (b : UInt8) (w : World) :
    Calls Try.prog 26 #[.string ⟨#[98, 102, 110, 114, 116]⟩, .int .u8 b.toNat] w fun e w' => e = .returned (.int .i64 (Lib.indexByte [98, 102, 110, 114, 116] b)) ∧ w = w' := by
  refine (Try.strings_IndexByte ⟨#[98, 102, 110, 114, 116]⟩ b.toNat w).mono ?_
  rintro e w' ⟨rfl, rfl⟩
  exact ⟨by simp, rfl⟩
theorem two (m : List UInt8) (h : ¬ m.length < 2) : ∃ a b t, m = a :: b :: t := by
  match m, h with
  | a :: b :: t, _ => exact ⟨a, b, t, rfl⟩
  | [], h => exact absurd (by simp) h
  | [_], h => exact absurd (by simp) h
theorem escF_two (a b : UInt8) (t : List UInt8) : escF (a :: b :: t) = match shortF b with | some c => (c.toNat, 2) | none => numF (a :: b :: t) := by
  unfold escF
  rw [if_neg (by simp)]
  rfl
theorem numF_no (a b : UInt8) (t : List UInt8) (h : b ≠ 117) : numF (a :: b :: t) = (0, 0) := by
  have : hexF (a :: b :: t) = none := by unfold hexF; rw [if_neg (fun x => h x.2.2)]
  unfold numF; rw [this]

set_option maxHeartbeats 2000000 in
theorem escaped_calls (m : List UInt8) (w : World) (hl : m.length ≤ 1000000) :
    Calls Try.prog 23 #[.string ⟨m.toArray⟩] w (RunePost (escF m) w) := by
  by_cases h2 : m.length < 2
  · have HE : Hid (escF m = (0, 0)) := by show _ = _; unfold escF; rw [if_pos h2]
    go_enter Try.func23, Try.ntmps23
    go_wp2
    go_ret2
    exact RunePost.of (p := (0, 0)) HE.out (Below.refl _ _)
  · obtain ⟨a, b, t, rfl⟩ := two m h2
    have HX := Lib.hid (escF_two a b t)
    by_cases hu : b = 117
    · subst hu
      have HE : Hid (escF (a :: 117 :: t) = numF (a :: 117 :: t)) := HX.out
      go_enter Try.func23, Try.ntmps23
      go_wp2_with fail
      refine (numbered_calls _ _ hl).mono ?_
      rintro e w1 ⟨rfl, b1⟩
      go_wp2
      go_ret2
      exact RunePost.of (p := numF (a :: 117 :: t)) HE.out b1
    · have n1 : ((b.toNat : Int) == 117) = false := neq8 b 117 hu
      have HU := Lib.hid hu
      clear hu
      by_cases hq : b = 34 ∨ b = 92 ∨ b = 47
      · have H0 : ∃ i : Nat, Lib.indexByte [34, 92, 47] b = (i : Int) ∧ shortF b = some b := by
          rcases hq with rfl | rfl | rfl
          · exact ⟨0, by decide, by decide⟩
          · exact ⟨1, by decide, by decide⟩
          · exact ⟨2, by decide, by decide⟩
        obtain ⟨i, h1, h2⟩ := H0
        have HE : Hid (escF (a :: b :: t) = (b.toNat, 2)) := by show _ = _; rw [HX.out, h2]
        have H1 := Lib.hid h1
        have hbl := b.toNat_lt
        clear h1 h2 hq
        go_enter Try.func23, Try.ntmps23
        go_wp2_with fail
        refine (ix_q _ _).mono ?_
        rintro e w1 ⟨rfl, rfl⟩
        rw [H1.out]
        go_wp2
        go_ret2
        exact RunePost.of (p := (_, 2)) HE.out (Below.refl _ _)
      · by_cases hs : b = 98 ∨ b = 102 ∨ b = 110 ∨ b = 114 ∨ b = 116
        · have H1 : Hid (Lib.indexByte [34, 92, 47] b = -1) := by
            apply indexByte_none
            intro d hd he; subst he
            simp only [List.mem_cons, List.not_mem_nil, or_false] at hd
            exact hq hd
          have H0 : (Lib.indexByte [98, 102, 110, 114, 116] b = 0 ∧ escF (a :: b :: t) = (8, 2)) ∨ (Lib.indexByte [98, 102, 110, 114, 116] b = 1 ∧ escF (a :: b :: t) = (12, 2)) ∨ (Lib.indexByte [98, 102, 110, 114, 116] b = 2 ∧ escF (a :: b :: t) = (10, 2)) ∨
              (Lib.indexByte [98, 102, 110, 114, 116] b = 3 ∧ escF (a :: b :: t) = (13, 2)) ∨ (Lib.indexByte [98, 102, 110, 114, 116] b = 4 ∧ escF (a :: b :: t) = (9, 2)) := by
            rw [HX.out]
            rcases hs with rfl | rfl | rfl | rfl | rfl
            · exact .inl ⟨by decide, rfl⟩
            · exact .inr (.inl ⟨by decide, rfl⟩)
            · exact .inr (.inr (.inl ⟨by decide, rfl⟩))
            · exact .inr (.inr (.inr (.inl ⟨by decide, rfl⟩)))
            · exact .inr (.inr (.inr (.inr ⟨by decide, rfl⟩)))
          clear hq hs
          rcases H0 with ⟨h1, h2⟩ | ⟨h1, h2⟩ | ⟨h1, h2⟩ | ⟨h1, h2⟩ | ⟨h1, h2⟩
          all_goals
            have H2 := Lib.hid h1
            have HE := Lib.hid h2
            clear h1 h2
            go_enter Try.func23, Try.ntmps23
            go_wp2_with fail
            refine (ix_q _ _).mono ?_
            rintro e w1 ⟨rfl, rfl⟩
            rw [H1.out]
            go_wp2_with fail
            refine (ix_s _ _).mono ?_
            rintro e w1 ⟨rfl, rfl⟩
            rw [H2.out]
            go_wp2
            go_ret2
            exact RunePost.of (p := (_, 2)) HE.out (Below.refl _ _)
        · have H1 : Hid (Lib.indexByte [34, 92, 47] b = -1) := by
            apply indexByte_none
            intro d hd he; subst he
            simp only [List.mem_cons, List.not_mem_nil, or_false] at hd
            exact hq hd
          have H2 : Hid (Lib.indexByte [98, 102, 110, 114, 116] b = -1) := by
            apply indexByte_none
            intro d hd he; subst he
            simp only [List.mem_cons, List.not_mem_nil, or_false] at hd
            exact hs hd
          have HE : Hid (escF (a :: b :: t) = (0, 0)) := by
            show _ = _
            have : shortF b = none := by
              unfold shortF
              rw [if_neg (fun h => hq (.inl h)), if_neg (fun h => hq (.inr (.inl h))), if_neg (fun h => hq (.inr (.inr h))), if_neg (fun h => hs (.inl h)), if_neg (fun h => hs (.inr (.inl h))), if_neg (fun h => hs (.inr (.inr (.inl h)))), if_neg (fun h => hs (.inr (.inr (.inr (.inl h))))), if_neg (fun h => hs (.inr (.inr (.inr (.inr h)))))]
            rw [HX.out, this]
            exact numF_no a b t HU.out
          clear hq hs
          go_enter Try.func23, Try.ntmps23
          go_wp2_with fail
          refine (ix_q _ _).mono ?_
          rintro e w1 ⟨rfl, rfl⟩
          rw [H1.out]
          go_wp2_with fail
          refine (ix_s _ _).mono ?_
          rintro e w1 ⟨rfl, rfl⟩
          rw [H2.out]
          go_wp2
          go_ret2
          exact RunePost.of (p := (0, 0)) HE.out (Below.refl _ _)
end Go.Proofs.Ytklghjeinempmaa
