/- Texts put together: Jq3 JpN. -/
import Derived.Test.YtajkgcmopmpihaaGreatDoorZ16d0a359f4
import Derived.Test.YtajkgcmopmpihaaGreatDoorZdb7749a57e
namespace Go.Proofs.YtajkgcmopmpihaaGreatDoor
open Go.ChangeShapes Go.WideShapes Go.ChangeAt Go.RowKit Go.IntWalk
set_option linter.unusedVariables false
set_option maxRecDepth 100000

def ParPost (w : World) (s : List UInt8) (e : Ending) (w' : World) : Prop := ∃ A B nl cl nm cm, e = .returned (.tuple #[valC (parF s).1 A B nl cl nm cm, .int .i64 (parF s).2]) ∧ VPar (fun b => w.heap.size ≤ b ∧ b < w'.heap.size) w' (parF s).1 A B nl cl nm cm ∧ Below w.heap.size w w'
theorem null_par (P : Nat → Prop) (w : World) : VPar P w nullJ none none 0 0 0 0 := ⟨⟨rfl, Nat.le_refl _, Nat.zero_le _⟩, ⟨rfl, Nat.le_refl _, Nat.zero_le _⟩, .inl rfl, .inl rfl, ⟨by decide, by decide⟩, ⟨by decide, by decide⟩, by decide⟩
theorem par_results (W : World) (b : Nat) (a0 a1 a2 a3 a4 a5 : Value) (x : Int) (h1 : Blk W b 25 [a0, a1, a2, a3, a4, a5]) (h2 : Blk W (b + 1) 26 [.int .i64 x]) (tmps : Array Value) (hp : tmps.getD 2 undef = .pointer (some ⟨b, 0, none⟩)) (hq : tmps.getD 3 undef = .pointer (some ⟨b + 1, 0, none⟩)) :
    (results Tryz.f8 tmps).run Tryz.prog W = .ok (.tuple #[.agg #[a0, a1, a2, a3, a4, a5], .int .i64 x]) W := by
  have hld := Blk.load h1 _ Tryz.underlying25 rfl size_v6
  have e0 := h2.cell (k := 0) rfl
  have hld2 : (loadVar 26 ⟨b + 1, 0, none⟩).run Tryz.prog W = .ok (.int .i64 x) W := by go_simp
  simp only [Array.getD_eq_getD_getElem?] at hp hq
  simp [results, Tryz.results8, hp, hq, asAddr, hld, hld2]
set_option maxHeartbeats 4000000 in
theorem parse_long (s : List UInt8) (w : World) (hl : s.length ≤ 140737488355328) (h6 : 65536 < s.length) : Calls Tryz.prog 8 #[.string ⟨s.toArray⟩] w (ParPost w s) := by
  have HP := Lib.hid (show parF s = (nullJ, 3) by unfold parF; rw [if_pos h6])
  obtain ⟨n, hn⟩ : ∃ n, s.length = n := ⟨_, rfl⟩
  have hsz : (⟨s.toArray⟩ : ByteArray).size = n := hn
  have hg1 : (65536 : Int) < (n : Int) := by omega
  have hg2 : decide ((65536 : Int) < (n : Int)) = true := by simpa using hg1
  have k1 : Blk ((w.alloc (.cells #[.int .i64 0, .bool false, .int .i64 0, .string ⟨#[]⟩, .slice none 0 0, .slice none 0 0] 25)).alloc (.cells #[.int .i64 0] 26)) w.heap.size 25 [.int .i64 0, .bool false, .int .i64 0, .string ⟨#[]⟩, .slice none 0 0, .slice none 0 0] := (Blk.new w _ _).later ((Below.refl _ _).alloc (Nat.le_refl _) _)
  have k2 : Blk ((w.alloc (.cells #[.int .i64 0, .bool false, .int .i64 0, .string ⟨#[]⟩, .slice none 0 0, .slice none 0 0] 25)).alloc (.cells #[.int .i64 0] 26)) (w.heap.size + 1) 26 [.int .i64 0] := by
    have := Blk.new (w.alloc (.cells #[.int .i64 0, .bool false, .int .i64 0, .string ⟨#[]⟩, .slice none 0 0, .slice none 0 0] 25)) [.int .i64 0] 26
    simpa using this
  have b2 : Below w.heap.size w ((w.alloc (.cells #[.int .i64 0, .bool false, .int .i64 0, .string ⟨#[]⟩, .slice none 0 0, .slice none 0 0] 25)).alloc (.cells #[.int .i64 0] 26)) := ((Below.refl _ _).alloc (Nat.le_refl _) _).alloc (by simp) _
  have HK := Lib.hid (And.intro k1 (And.intro k2 b2))
  clear k1 k2 b2 hl h6 hn
  go_enter_defers Tryz.func8, Tryz.ntmps8
  go_upto_region 1 with fail
  refine wp_gen (fun W => Blk W w.heap.size 25 [.int .i64 0, .bool false, .int .i64 0, .string ⟨#[]⟩, .slice none 0 0, .slice none 0 0] ∧ Blk W (w.heap.size + 1) 26 [.int .i64 0] ∧ Below w.heap.size w W) HK.out ?_
  clear HK
  rintro W ⟨k1, k2, b2⟩
  have HK := Lib.hid (And.intro k1 (And.intro k2 b2))
  obtain ⟨z0, z1, z2, z3, z4, z5, y0, y1, y2, y3, y4, y5⟩ := cells6s k1
  have e0 := k2.cell (k := 0) rfl
  have e1 := k2.frozen 0
  clear k1 k2 b2
  go_wp2_with fail
  refine ⟨_, par_results _ w.heap.size _ _ _ _ _ _ 3 ((blk6 HK.out.1).far1 (by omega) _ _) (((chg6s W w.heap.size).blk HK.out.2.1 (fun e => by have e2 : w.heap.size + 1 = w.heap.size := e; omega)).set_ 0 _) _ rfl rfl, none, none, 0, 0, 0, 0, ?_, ?_, ?_⟩
  · rw [HP.out]; rfl
  · rw [HP.out]; exact null_par _ _
  · exact (below6b HK.out.2.2 (Nat.le_refl _)).setCell (p := ⟨w.heap.size + 1, 0, none⟩) (Nat.le_succ _) _
/-- While Parse reads: what it answers lies in new memory, apart from the reader. -/
structure PaSt (w : World) (s : List UInt8) (at_ : Nat) (U : Value) (F : Nat → Prop) (v : Jv) (A B : Option Addr) (nl cl nm cm : Nat) (W : World) : Prop where
  whole : Whole9 (w.heap.size + 1 + 1) W (w.heap.size + 1 + 1) s at_ U [] F v A B nl cl nm cm
  res : Blk W w.heap.size 25 [.int .i64 v.kd, .bool v.is, .int .i64 v.n, .string ⟨v.s.toArray⟩, .slice A nl cl, .slice B nm cm]
  err : Blk W (w.heap.size + 1) 26 [.int .i64 0]
  below : Below w.heap.size w W
theorem PaSt.next {w W W' : World} {s : List UInt8} {at_ at' : Nat} {U : Value} {F : Nat → Prop} {v : Jv} {A B : Option Addr} {nl cl nm cm : Nat} (h : PaSt w s at_ U F v A B nl cl nm cm W) (hc : Chg (· = w.heap.size + 1 + 1) W W') (h2 : RSt (w.heap.size + 1 + 1) W' (w.heap.size + 1 + 1) s at' U []) : PaSt w s at' U F v A B nl cl nm cm W' :=
  ⟨⟨h2, h.whole.2.1.to (fun b o hb => hc.cell (h.whole.2.2.1 b hb).2.1 (h.whole.2.2.1 b hb).2.2.1) (fun _ h => h), fun b hb => ⟨(h.whole.2.2.1 b hb).1, Nat.lt_of_lt_of_le (h.whole.2.2.1 b hb).2.1 hc.size, (h.whole.2.2.1 b hb).2.2⟩, fun f hf => by cases hf⟩, hc.blk h.res (fun e => by have e2 : w.heap.size = w.heap.size + 1 + 1 := e; omega), hc.blk h.err (fun e => by have e2 : w.heap.size + 1 = w.heap.size + 1 + 1 := e; omega), hc.below h.below (Nat.le_of_lt h.res.lt) (fun b _ e => by have e2 : b = w.heap.size + 1 + 1 := e; omega)⟩
theorem Blk.is3 {w W : World} {s : List UInt8} (hW : W = (((w.alloc (.cells #[.int .i64 0, .bool false, .int .i64 0, .string ⟨#[]⟩, .slice none 0 0, .slice none 0 0] 25)).alloc (.cells #[.int .i64 0] 26)).alloc (.cells #[.string ⟨s.toArray⟩, .int .i64 0, .slice none 0 0] 50))) : Blk W w.heap.size 25 [.int .i64 0, .bool false, .int .i64 0, .string ⟨#[]⟩, .slice none 0 0, .slice none 0 0] ∧ Blk W (w.heap.size + 1) 26 [.int .i64 0] ∧ Blk W (w.heap.size + 1 + 1) 50 [.string ⟨s.toArray⟩, .int .i64 0, .slice none 0 0] ∧ Below w.heap.size w W := by
  subst hW
  refine ⟨?_, ?_, ?_, ?_⟩
  · have := ((Blk.new w [.int .i64 0, .bool false, .int .i64 0, .string ⟨#[]⟩, .slice none 0 0, .slice none 0 0] 25).alloc (.cells #[.int .i64 0] 26)).alloc (.cells #[.string ⟨s.toArray⟩, .int .i64 0, .slice none 0 0] 50)
    simpa using this
  · have := (Blk.new (w.alloc (.cells #[.int .i64 0, .bool false, .int .i64 0, .string ⟨#[]⟩, .slice none 0 0, .slice none 0 0] 25)) [.int .i64 0] 26).alloc (.cells #[.string ⟨s.toArray⟩, .int .i64 0, .slice none 0 0] 50)
    simpa using this
  · have := Blk.new ((w.alloc (.cells #[.int .i64 0, .bool false, .int .i64 0, .string ⟨#[]⟩, .slice none 0 0, .slice none 0 0] 25)).alloc (.cells #[.int .i64 0] 26)) [.string ⟨s.toArray⟩, .int .i64 0, .slice none 0 0] 50
    simpa using this
  · exact (((Below.refl _ _).alloc (Nat.le_refl _) _).alloc (by simp) _).alloc (by simp; omega) _
set_option maxHeartbeats 4000000 in
theorem parse_short (s : List UInt8) (w : World) (hE : ErrC w) (h6 : s.length ≤ 65536) : Calls Tryz.prog 8 #[.string ⟨s.toArray⟩] w (ParPost w s) := by
  have HP := Lib.hid (show parF s = (match pV 0 s with | .error e => (nullJ, e) | .ok p => if (skipB p.2).isEmpty then (p.1, 0) else (nullJ, 4)) by unfold parF; rw [if_neg (by omega)]; rfl)
  have hmf : ∀ (fn : Fn) (first cap : Array Value) (w : World), (Instr.makeFunc fn first cap).run Tryz.prog w = .ok (.func fn first cap) w := fun _ _ _ _ => rfl
  obtain ⟨n, hn⟩ : ∃ n, s.length = n := ⟨_, rfl⟩
  have hsz : (⟨s.toArray⟩ : ByteArray).size = n := hn
  have hg1 : ¬ (65536 : Int) < (n : Int) := by omega
  have hg2 : decide ((65536 : Int) < (n : Int)) = false := by simpa using hg1
  obtain ⟨W3, hW3⟩ : ∃ W3, W3 = (((w.alloc (.cells #[.int .i64 0, .bool false, .int .i64 0, .string ⟨#[]⟩, .slice none 0 0, .slice none 0 0] 25)).alloc (.cells #[.int .i64 0] 26)).alloc (.cells #[.string ⟨s.toArray⟩, .int .i64 0, .slice none 0 0] 50)) := ⟨_, rfl⟩
  obtain ⟨k1, k2, k3, b3⟩ := Blk.is3 hW3
  have hst : RSt (w.heap.size + 1 + 1) W3 (w.heap.size + 1 + 1) s 0 (.slice none 0 0) [] :=
    ⟨k3, World.ownsRow_nil _ _ _ _, fun b e => (by cases e), fun f hf => (by cases hf), fun f hf => (by cases hf), List.Pairwise.nil, Nat.le_refl _, Nat.zero_le _, Nat.zero_le _, h6, fun f hf => (by cases hf)⟩
  have HV := all_calls (w.heap.size + 1 + 1) W3 (w.heap.size + 1 + 1) s 0 (.slice none 0 0) hst (hE.below b3 hE.1) (by have := hE.1; omega)
  have HK := Lib.hid (And.intro k1 (And.intro k2 b3))
  rw [hW3] at HV
  have HW3 := Lib.hid hW3
  have HN := Lib.hid hn
  clear hst hE h6 k1 k2 k3 b3 hW3 hn
  rw [List.drop_zero] at HV
  go_enter_defers Tryz.func8, Tryz.ntmps8
  go_wp2_with fail
  refine HV.mono ?_
  rintro e w2 ⟨c2, ⟨c, hc, rfl⟩ | ⟨at', U, F, v, A, B, nl, cl, nm, cm, rfl, hw9, hok⟩⟩
  · rw [← HW3.out] at c2
    have h1 : Blk w2 w.heap.size 25 [.int .i64 0, .bool false, .int .i64 0, .string ⟨#[]⟩, .slice none 0 0, .slice none 0 0] := (c2.block _ (by omega)).trans HK.out.1
    have h2 : Blk w2 (w.heap.size + 1) 26 [.int .i64 0] := (c2.block _ (by omega)).trans HK.out.2.1
    have HC := Lib.hid (And.intro h1 (And.intro h2 (And.intro (HK.out.2.2.trans (c2.mono (by omega))) (show parF s = (nullJ, c) by rw [HP.out, hc]))))
    clear c2 hc h1 h2
    go_wp2_with fail
    refine leaves_cons (f := 21) (args := #[.pointer (some ⟨w.heap.size, 0, none⟩), .pointer (some ⟨w.heap.size + 1, 0, none⟩)]) (by simp) (by simp [go_sem]) ?_
    refine (pcatch_panicking w.heap.size c 0 _ _ _ _ _ _ [] _ HC.out.1 HC.out.2.1).mono ?_
    rintro e u' w'' ⟨rfl, rfl, WR, hbR, rfl⟩
    refine ⟨_, par_results _ w.heap.size _ _ _ _ _ _ c ((blk6 (HC.out.1.later hbR)).far1 (by omega) _ _) (((chg6s WR w.heap.size).blk (HC.out.2.1.later hbR) (fun e => by have e2 : w.heap.size + 1 = w.heap.size := e; omega)).set_ 0 _) _ rfl rfl, none, none, 0, 0, 0, 0, ?_, ?_, ?_⟩
    · rw [HC.out.2.2.2]; rfl
    · rw [HC.out.2.2.2]; exact null_par _ _
    · exact (below6b (HC.out.2.2.1.trans (hbR.mono (by have := HC.out.1.lt; omega))) (Nat.le_refl _)).setCell (p := ⟨w.heap.size + 1, 0, none⟩) (Nat.le_succ _) _
  · rw [← HW3.out] at c2
    have h1 : Blk w2 w.heap.size 25 [.int .i64 0, .bool false, .int .i64 0, .string ⟨#[]⟩, .slice none 0 0, .slice none 0 0] := (c2.block _ (by omega)).trans HK.out.1
    have h2 : Blk w2 (w.heap.size + 1) 26 [.int .i64 0] := (c2.block _ (by omega)).trans HK.out.2.1
    have hb : Below w.heap.size w w2 := HK.out.2.2.trans (c2.mono (by omega))
    have hF : ∀ b, F b → w.heap.size + 1 + 1 ≤ b := fun b hb => (hw9.2.2.1 b hb).1
    have HS := Lib.hid (show PaSt w s at' U F v A B nl cl nm cm (set6 w2 w.heap.size (.int .i64 v.kd) (.bool v.is) (.int .i64 v.n) (.string ⟨v.s.toArray⟩) (.slice A nl cl) (.slice B nm cm)) from
      ⟨hw9.set6 h1 (fun h => by have := hF _ h; omega), blk6 h1, (chg6s w2 w.heap.size).blk h2 (fun e => by have e2 : w.heap.size + 1 = w.heap.size := e; omega), below6b hb (Nat.le_refl _)⟩)
    have HOK := Lib.hid (show parF s = (if (skipB (s.drop at')).isEmpty then (v, 0) else (nullJ, 4)) by rw [HP.out, hok])
    obtain ⟨z0, z1, z2, z3, z4, z5, y0, y1, y2, y3, y4, y5⟩ := cells6s h1
    clear c2 hw9 hok h1 h2 hb hF HK HW3 HP
    unfold valC
    go_upto_region 6 with fail
    refine wp_gen (fun W => PaSt w s at' U F v A B nl cl nm cm W) HS.out ?_
    clear HS z0 z1 z2 z3 z4 z5 y0 y1 y2 y3 y4 y5
    rintro W4 HS4
    have H4 := Lib.hid HS4
    clear HS4
    go_wp2_with fail
    refine (next_calls (w.heap.size + 1 + 1) _ (w.heap.size + 1 + 1) s at' _ _ H4.out.whole.1).mono ?_
    rintro e W5 ⟨k, rfl, n1, n2, n3, n4⟩
    have H5 := Lib.hid (And.intro (H4.out.next n4 n3) n1)
    have d1 := n3.blk.cell (k := 1) rfl
    have hkn : k ≤ n := by rw [← HN.out]; exact n3.hat
    clear n1 n2 n3 n4 H4
    cases hk : s.drop k with
    | nil =>
      have hge : ¬ (k : Int) < (n : Int) := by
        have := congrArg List.length hk
        rw [List.length_drop, HN.out] at this
        simp at this
        omega
      have hge2 : decide ((k : Int) < (n : Int)) = false := by simpa using hge
      have HE := Lib.hid (show parF s = (v, 0) by rw [HOK.out, ← H5.out.2, hk]; rfl)
      rw [show headU ([] : List UInt8) = 0 from rfl]
      obtain ⟨z0, z1, z2, z3, z4, z5, y0, y1, y2, y3, y4, y5⟩ := cells6s H5.out.1.res
      have e0 := H5.out.1.err.cell (k := 0) rfl
      have e1 := H5.out.1.err.frozen 0
      go_wp2_with fail
      refine leaves_cons (f := 21) (args := #[.pointer (some ⟨w.heap.size, 0, none⟩), .pointer (some ⟨w.heap.size + 1, 0, none⟩)]) (by simp) (by simp [go_sem]) ?_
      refine (pcatch_idle ⟨w.heap.size, 0, none⟩ ⟨w.heap.size + 1, 0, none⟩ _).mono ?_
      rintro e u' w'' ⟨rfl, rfl, rfl⟩
      have hF : ∀ b, F b → w.heap.size + 1 + 1 ≤ b ∧ b < W5.heap.size := fun b hb => ⟨(H5.out.1.whole.2.2.1 b hb).1, (H5.out.1.whole.2.2.1 b hb).2.1⟩
      have hc6 : Chg (fun b => b = w.heap.size ∨ b = w.heap.size + 1) W5 ((set6 W5 w.heap.size (.int .i64 v.kd) (.bool v.is) (.int .i64 v.n) (.string ⟨v.s.toArray⟩) (.slice A nl cl) (.slice B nm cm)).setCell ⟨w.heap.size + 1, 0, none⟩ (.int .i64 0)) := ((chg6s W5 w.heap.size).mono (fun b _ e => .inl e)).setCell (.inl (.inr rfl)) _
      refine ⟨_, par_results _ w.heap.size _ _ _ _ _ _ 0 ((blk6 H5.out.1.res).far1 (by omega) _ _) (((chg6s W5 w.heap.size).blk H5.out.1.err (fun e => by have e2 : w.heap.size + 1 = w.heap.size := e; omega)).set_ 0 _) _ rfl rfl, A, B, nl, cl, nm, cm, ?_, ?_, ?_⟩
      · rw [HE.out]; rfl
      · rw [HE.out]
        exact H5.out.1.whole.2.1.to (fun b o hb => hc6.cell (hF b hb).2 (fun e => by have := (hF b hb).1; omega)) (fun b hb => ⟨by have := (hF b hb).1; omega, Nat.lt_of_lt_of_le (hF b hb).2 hc6.size⟩)
      · exact (below6b H5.out.1.below (Nat.le_refl _)).setCell (p := ⟨w.heap.size + 1, 0, none⟩) (Nat.le_succ _) _
    | cons c q =>
      have hlt : (k : Int) < (n : Int) := by
        have := congrArg List.length hk
        rw [List.length_drop, HN.out] at this
        simp at this
        omega
      have hlt2 : decide ((k : Int) < (n : Int)) = true := by simpa using hlt
      have HE := Lib.hid (show parF s = (nullJ, 4) by rw [HOK.out, ← H5.out.2, hk]; rfl)
      obtain ⟨z, hz⟩ : ∃ z, headU (c :: q) = z := ⟨_, rfl⟩
      rw [hz]
      clear hz
      by_cases hzz : z = 0
      · subst hzz
        go_wp2_with fail
        refine (giveUp_calls 4 _).mono ?_
        rintro e w6 ⟨rfl, rfl⟩
        go_wp2_with fail
        refine leaves_cons (f := 21) (args := #[.pointer (some ⟨w.heap.size, 0, none⟩), .pointer (some ⟨w.heap.size + 1, 0, none⟩)]) (by simp) (by simp [go_sem]) ?_
        refine (pcatch_panicking w.heap.size 4 0 _ _ _ _ _ _ [] _ H5.out.1.res H5.out.1.err).mono ?_
        rintro e u' w'' ⟨rfl, rfl, WR, hbR, rfl⟩
        refine ⟨_, par_results _ w.heap.size _ _ _ _ _ _ 4 ((blk6 (H5.out.1.res.later hbR)).far1 (by omega) _ _) (((chg6s WR w.heap.size).blk (H5.out.1.err.later hbR) (fun e => by have e2 : w.heap.size + 1 = w.heap.size := e; omega)).set_ 0 _) _ rfl rfl, none, none, 0, 0, 0, 0, ?_, ?_, ?_⟩
        · rw [HE.out]; rfl
        · rw [HE.out]; exact null_par _ _
        · exact (below6b (H5.out.1.below.trans (hbR.mono (by have := H5.out.1.res.lt; omega))) (Nat.le_refl _)).setCell (p := ⟨w.heap.size + 1, 0, none⟩) (Nat.le_succ _) _
      · have hz1 : ((z : Int) != 0) = true := by simp; omega
        have hz2 : ((z : Int) == 0) = false := by simp; omega
        go_wp2_with fail
        refine (giveUp_calls 4 _).mono ?_
        rintro e w6 ⟨rfl, rfl⟩
        go_wp2_with fail
        refine leaves_cons (f := 21) (args := #[.pointer (some ⟨w.heap.size, 0, none⟩), .pointer (some ⟨w.heap.size + 1, 0, none⟩)]) (by simp) (by simp [go_sem]) ?_
        refine (pcatch_panicking w.heap.size 4 0 _ _ _ _ _ _ [] _ H5.out.1.res H5.out.1.err).mono ?_
        rintro e u' w'' ⟨rfl, rfl, WR, hbR, rfl⟩
        refine ⟨_, par_results _ w.heap.size _ _ _ _ _ _ 4 ((blk6 (H5.out.1.res.later hbR)).far1 (by omega) _ _) (((chg6s WR w.heap.size).blk (H5.out.1.err.later hbR) (fun e => by have e2 : w.heap.size + 1 = w.heap.size := e; omega)).set_ 0 _) _ rfl rfl, none, none, 0, 0, 0, 0, ?_, ?_, ?_⟩
        · rw [HE.out]; rfl
        · rw [HE.out]; exact null_par _ _
        · exact (below6b (H5.out.1.below.trans (hbR.mono (by have := H5.out.1.res.lt; omega))) (Nat.le_refl _)).setCell (p := ⟨w.heap.size + 1, 0, none⟩) (Nat.le_succ _) _
/-- Parse: the document's. -/
theorem parse_calls (s : List UInt8) (w : World) (hE : ErrC w) (hl : s.length ≤ 140737488355328) : Calls Tryz.prog 8 #[.string ⟨s.toArray⟩] w (ParPost w s) := by
  by_cases h6 : 65536 < s.length
  · exact parse_long s w hl h6
  · exact parse_short s w hE (by omega)
end Go.Proofs.YtajkgcmopmpihaaGreatDoor
namespace Go.Proofs.YtajkgcmopmpihaaGreatDoor
open Go.Lib
set_option linter.unusedVariables false

def valL (acc : Nat) : List UInt8 → Nat
  | [] => acc
  | c :: r => valL (acc * 10 + (c.toNat - 48)) r
theorem valL_app (acc : Nat) (l m : List UInt8) : valL acc (l ++ m) = valL (valL acc l) m := by
  induction l generalizing acc with
  | nil => rfl
  | cons c l ih => exact ih _
theorem valL_ge (acc : Nat) (l : List UInt8) : acc ≤ valL acc l := by
  induction l generalizing acc with
  | nil => exact Nat.le_refl _
  | cons c l ih => exact Nat.le_trans (Nat.le_trans (Nat.le_mul_of_pos_right acc (by decide)) (Nat.le_add_right _ _)) (ih (acc * 10 + (c.toNat - 48)))
theorem digB_iff (c : UInt8) : digB c = true ↔ 48 ≤ c.toNat ∧ c.toNat ≤ 57 := by simp [digB]
theorem parse_val : ∀ (l : List UInt8) (acc : Nat), (∀ c ∈ l, digB c = true) → valL acc l ≤ 9007199254740991 → parseUint10 acc l = .ok (valL acc l)
  | [], acc, _, _ => by rw [parseUint10]; rfl
  | c :: l, acc, hd, hv => by
    have hc := (digB_iff c).1 (hd c (List.mem_cons_self ..))
    have hv2 : valL (acc * 10 + (c.toNat - 48)) l ≤ 9007199254740991 := hv
    have hge := valL_ge (acc * 10 + (c.toNat - 48)) l
    have ih := parse_val l (acc * 10 + (c.toNat - 48)) (fun x hx => hd x (List.mem_cons_of_mem _ hx)) hv2
    have e : valL acc (c :: l) = valL (acc * 10 + (c.toNat - 48)) l := rfl
    rw [e, ← ih]
    clear e ih hv
    rw [parseUint10, if_pos hc, if_neg (by omega), if_neg (by omega)]
theorem dec_digs (u : Nat) : ∀ c ∈ decDigits u, digB c = true := by
  induction u using Nat.strongRecOn with
  | _ u ih =>
    intro c hc
    rw [decDigits] at hc
    split at hc
    · rw [List.mem_singleton.1 hc, digB_iff]; simp; omega
    · rcases List.mem_append.1 hc with h | h
      · exact ih (u / 10) (by omega) c h
      · rw [List.mem_singleton.1 h, digB_iff]; simp; omega
theorem dec_ne (u : Nat) : decDigits u ≠ [] := by
  rw [decDigits]; split <;> simp
theorem u8d (n : Nat) (h : n < 10) : (UInt8.ofNat (48 + n)).toNat - 48 = n := by
  have : (UInt8.ofNat (48 + n)).toNat = 48 + n := by simp; omega
  omega
theorem dec_val (u : Nat) : valL 0 (decDigits u) = u := by
  induction u using Nat.strongRecOn with
  | _ u ih =>
    rw [decDigits]
    split
    · rename_i h
      have e := u8d u h
      show 0 * 10 + ((UInt8.ofNat (48 + u)).toNat - 48) = u
      rw [e]; omega
    · have e := u8d (u % 10) (by omega)
      rw [valL_app, ih (u / 10) (by omega)]
      show u / 10 * 10 + ((UInt8.ofNat (48 + u % 10)).toNat - 48) = u
      rw [e]; omega
/-- The first digit of a number that isn't below ten isn't 0. -/
theorem dec_head (u : Nat) (h : 10 ≤ u) : (decDigits u).head? ≠ some 48 := by
  induction u using Nat.strongRecOn with
  | _ u ih =>
    rw [decDigits, dif_neg (by omega)]
    have hne := dec_ne (u / 10)
    rw [show (decDigits (u / 10) ++ [UInt8.ofNat (48 + u % 10)]).head? = (decDigits (u / 10)).head? by cases h : decDigits (u / 10) with | nil => exact absurd h hne | cons c q => rfl]
    by_cases h10 : 10 ≤ u / 10
    · exact ih (u / 10) (by omega) h10
    · rw [decDigits, dif_pos (by omega)]
      simp
      intro e
      have := congrArg UInt8.toNat e
      simp at this
      omega
theorem dec_small (u : Nat) (h : u < 10) : (decDigits u).length = 1 := by rw [decDigits, dif_pos h]; rfl
theorem dig_num (c : UInt8) (h : digB c = true) : numB c = true := by simp [numB, h]
theorem dig_ne (c : UInt8) (h : digB c = true) : c.toNat ≠ 45 ∧ c.toNat ≠ 43 := by have := (digB_iff c).1 h; omega
theorem take_all {p : UInt8 → Bool} : ∀ (l rest : List UInt8), (∀ c ∈ l, p c = true) → (∀ c, rest.head? = some c → p c = false) → (l ++ rest).takeWhile p = l ∧ (l ++ rest).dropWhile p = rest
  | [], rest, _, h => by
    cases rest with
    | nil => exact ⟨rfl, rfl⟩
    | cons c r => simp [h c rfl]
  | c :: l, rest, hl, h => by
    have := take_all l rest (fun x hx => hl x (by simp [hx])) h
    have hc := hl c (by simp)
    simp [hc, this]
theorem whole_dec (u : Nat) : (decDigits u).takeWhile digB = decDigits u ∧ (decDigits u).dropWhile digB = [] := by
  have := take_all (p := digB) (decDigits u) [] (dec_digs u) (by simp)
  simpa using this
theorem whole_tail (u : Nat) : (if ((decDigits u).takeWhile digB).isEmpty || (decide (1 < ((decDigits u).takeWhile digB).length) && (decDigits u).head? == some 48) then (false, false) else fracF ((decDigits u).dropWhile digB)) = (true, false) := by
  obtain ⟨h1, h2⟩ := whole_dec u
  rw [h1, h2]
  have hne := dec_ne u
  have h3 : (decDigits u).isEmpty = false := by cases h : decDigits u <;> simp_all
  rw [h3]
  by_cases h10 : u < 10
  · rw [dec_small u h10]; rfl
  · have := dec_head u (by omega)
    have h4 : ((decDigits u).head? == some 48) = false := by rw [beq_eq_false_iff_ne]; exact this
    rw [h4]; simp [fracF]
theorem atoi_neg (r : List UInt8) (u : Nat) (h : parseMag r = .ok u) (hu : u ≤ 9007199254740991) : atoiAll (45 :: r) = .ok (-(u : Int)) := by
  unfold atoiAll
  simp only [show ((45 : UInt8).toNat = 43 ∨ (45 : UInt8).toNat = 45) from .inr rfl, if_true, h]
  rw [if_neg (by intro h2; exact h2.1 rfl), if_neg (by intro h2; omega)]; rfl
theorem atoi_pos (c : UInt8) (r : List UInt8) (u : Nat) (hc : c.toNat ≠ 45 ∧ c.toNat ≠ 43) (h : parseMag (c :: r) = .ok u) (hu : u ≤ 9007199254740991) : atoiAll (c :: r) = .ok (u : Int) := by
  unfold atoiAll
  simp only [show ¬ (c.toNat = 43 ∨ c.toNat = 45) from fun h2 => h2.elim hc.2 hc.1, if_false, h]
  rw [if_neg (by intro h2; omega), if_neg (by intro h2; exact hc.1 h2.1), if_neg hc.1]
/-- A number's text, and what follows. -/
theorem numP_itoa (n : Int) (h0 : -9007199254740991 ≤ n) (h1 : n ≤ 9007199254740991) (rest : List UInt8) (hr : ∀ c, rest.head? = some c → numB c = false) :
    numP (itoa n ++ rest) = .ok (⟨2, false, n, [], .nil, .nil⟩, rest) ∧ ∃ c q, itoa n = c :: q ∧ (c = 45 ∨ digB c = true) := by
  by_cases hn : n < 0
  · have e : itoa n = 45 :: decDigits n.natAbs := by unfold itoa; rw [if_pos hn]
    have hall : ∀ c ∈ itoa n, numB c = true := by
      rw [e]
      intro c hc
      rcases List.mem_cons.1 hc with rfl | hc
      · rfl
      · exact dig_num c (dec_digs _ c hc)
    obtain ⟨t1, t2⟩ := take_all (p := numB) (itoa n) rest hall hr
    have hw : wholeF (itoa n) = (true, false) := by
      rw [e]; unfold wholeF signF; simp only [if_true]; exact whole_tail _
    have hpos : 1 ≤ n.natAbs := by omega
    have hv : parseMag (decDigits n.natAbs) = .ok n.natAbs := by
      unfold parseMag
      rw [if_neg (dec_ne _), parse_val _ 0 (dec_digs _) (by rw [dec_val]; omega), dec_val]
    have ha : atoiAll (itoa n) = .ok n := by
      rw [e, atoi_neg _ _ hv (by omega)]; congr 1; omega
    refine ⟨?_, 45, _, e, .inl rfl⟩
    unfold numP
    rw [t1, t2, hw, ha]
    have hz : itoa n ≠ [45, 48] := fun e2 => by
      rw [e] at e2
      injection e2 with _ e2
      have h5 := dec_val n.natAbs
      rw [e2] at h5
      have h6 : valL 0 [48] = 0 := rfl
      omega
    simp only [Bool.true_eq_false, if_false]
    rw [if_neg (by intro h; rcases h with h | h | h; exact hz h; omega; omega)]
  · have e : itoa n = decDigits n.toNat := by unfold itoa; rw [if_neg hn]
    have hall : ∀ c ∈ itoa n, numB c = true := by
      rw [e]; exact fun c hc => dig_num c (dec_digs _ c hc)
    obtain ⟨t1, t2⟩ := take_all (p := numB) (itoa n) rest hall hr
    obtain ⟨c0, q0, hcq⟩ : ∃ c q, decDigits n.toNat = c :: q := by
      cases h : decDigits n.toNat with
      | nil => exact absurd h (dec_ne _)
      | cons c q => exact ⟨c, q, rfl⟩
    have hd0 : digB c0 = true := dec_digs n.toNat c0 (by rw [hcq]; simp)
    have hne := dig_ne c0 hd0
    have hw : wholeF (itoa n) = (true, false) := by
      have := whole_tail n.toNat
      rw [e]
      unfold wholeF
      have hs : signF (decDigits n.toNat) = decDigits n.toNat := by
        rw [hcq]; unfold signF; dsimp only; rw [if_neg (by intro h; exact hne.1 (by rw [h]; rfl))]
      rw [hs]; exact this
    have hv : parseMag (decDigits n.toNat) = .ok n.toNat := by
      unfold parseMag
      rw [if_neg (dec_ne _), parse_val _ 0 (dec_digs _) (by rw [dec_val]; omega), dec_val]
    have ha : atoiAll (itoa n) = .ok n := by
      rw [e]
      rw [hcq] at hv ⊢
      rw [atoi_pos _ _ _ hne hv (by omega)]; congr 1; omega
    refine ⟨?_, c0, q0, by rw [e, hcq], .inr hd0⟩
    unfold numP
    rw [t1, t2, hw, ha]
    have hz : itoa n ≠ [45, 48] := fun e2 => by
      rw [e, hcq] at e2
      injection e2 with e2 _
      exact hne.1 (by rw [e2]; rfl)
    simp only [Bool.true_eq_false, if_false]
    rw [if_neg (by intro h; rcases h with h | h | h; exact hz h; omega; omega)]
end Go.Proofs.YtajkgcmopmpihaaGreatDoor
