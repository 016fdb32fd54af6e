/- Texts put together: Jq3 JpN. -/
import Derived.Test.YtajkgcmopmpihaaGreatDoorY15ea474c78
import Derived.Test.YtajkgcmopmpihaaGreatDoorY49b39df4f7
namespace Go.Proofs.YtajkgcmopmpihaaGreatDoor
open Go.ChangeShapes Go.WideShapes Go.ChangeAt Go.RowKit Go.IntWalk
set_option linter.unusedVariables false
set_option maxRecDepth 100000
def ParPost (w : World) (s : List UInt8) (e : Ending) (w' : World) : Prop := ∃ A B nl cl nm cm, e = .returned (.tuple #[valC (parF s).1 A B nl cl nm cm, .int .i64 (parF s).2]) ∧ VPar (fun b => w.heap.size ≤ b ∧ b < w'.heap.size) w' (parF s).1 A B nl cl nm cm ∧ Below w.heap.size w w' ∧ UnfV w' (fun b => w.heap.size ≤ b ∧ b < w'.heap.size) A B
theorem null_par (P : Nat → Prop) (w : World) : VPar P w nullJ none none 0 0 0 0 := ⟨⟨rfl, Nat.le_refl _, Nat.zero_le _⟩, ⟨rfl, Nat.le_refl _, Nat.zero_le _⟩, .inl rfl, .inl rfl, ⟨by decide, by decide⟩, ⟨by decide, by decide⟩, by decide⟩
theorem par_results (W : World) (b : Nat) (a0 a1 a2 a3 a4 a5 : Value) (x : Int) (h1 : Blk W b 25 [a0, a1, a2, a3, a4, a5]) (h2 : Blk W (b + 1) 26 [.int .i64 x]) (tmps : Array Value) (hp : tmps.getD 2 undef = .pointer (some ⟨b, 0, none⟩)) (hq : tmps.getD 3 undef = .pointer (some ⟨b + 1, 0, none⟩)) :
    (results Tryz.f8 tmps).run Tryz.prog W = .ok (.tuple #[.agg #[a0, a1, a2, a3, a4, a5], .int .i64 x]) W := by
  have hld := Blk.load h1 _ Tryz.underlying25 rfl size_v6
  have e0 := h2.cell (k := 0) rfl
  have hld2 : (loadVar 26 ⟨b + 1, 0, none⟩).run Tryz.prog W = .ok (.int .i64 x) W := by go_simp
  simp only [Array.getD_eq_getD_getElem?] at hp hq
  simp [results, Tryz.results8, hp, hq, asAddr, hld, hld2]
set_option maxHeartbeats 4000000 in
theorem parse_long (s : List UInt8) (w : World) (hl : s.length ≤ 140737488355328) (h6 : 65536 < s.length) : Calls Tryz.prog 8 #[.string ⟨s.toArray⟩] w (ParPost w s) := by
  have HP := Lib.hid (show parF s = (nullJ, 3) by unfold parF; rw [if_pos h6])
  obtain ⟨n, hn⟩ : ∃ n, s.length = n := ⟨_, rfl⟩
  have hsz : (⟨s.toArray⟩ : ByteArray).size = n := hn
  have hg1 : (65536 : Int) < (n : Int) := by omega
  have hg2 : decide ((65536 : Int) < (n : Int)) = true := by simpa using hg1
  have k1 : Blk ((w.alloc (.cells #[.int .i64 0, .bool false, .int .i64 0, .string ⟨#[]⟩, .slice none 0 0, .slice none 0 0] 25)).alloc (.cells #[.int .i64 0] 26)) w.heap.size 25 [.int .i64 0, .bool false, .int .i64 0, .string ⟨#[]⟩, .slice none 0 0, .slice none 0 0] := (Blk.new w _ _).later ((Below.refl _ _).alloc (Nat.le_refl _) _)
  have k2 : Blk ((w.alloc (.cells #[.int .i64 0, .bool false, .int .i64 0, .string ⟨#[]⟩, .slice none 0 0, .slice none 0 0] 25)).alloc (.cells #[.int .i64 0] 26)) (w.heap.size + 1) 26 [.int .i64 0] := by
    have := Blk.new (w.alloc (.cells #[.int .i64 0, .bool false, .int .i64 0, .string ⟨#[]⟩, .slice none 0 0, .slice none 0 0] 25)) [.int .i64 0] 26
    simpa using this
  have b2 : Below w.heap.size w ((w.alloc (.cells #[.int .i64 0, .bool false, .int .i64 0, .string ⟨#[]⟩, .slice none 0 0, .slice none 0 0] 25)).alloc (.cells #[.int .i64 0] 26)) := ((Below.refl _ _).alloc (Nat.le_refl _) _).alloc (by simp) _
  have HK := Lib.hid (And.intro k1 (And.intro k2 b2))
  clear k1 k2 b2 hl h6 hn
  go_enter_defers Tryz.func8, Tryz.ntmps8
  go_upto_region 1 with fail
  refine wp_gen (fun W => Blk W w.heap.size 25 [.int .i64 0, .bool false, .int .i64 0, .string ⟨#[]⟩, .slice none 0 0, .slice none 0 0] ∧ Blk W (w.heap.size + 1) 26 [.int .i64 0] ∧ Below w.heap.size w W) HK.out ?_
  clear HK
  rintro W ⟨k1, k2, b2⟩
  have HK := Lib.hid (And.intro k1 (And.intro k2 b2))
  obtain ⟨z0, z1, z2, z3, z4, z5, y0, y1, y2, y3, y4, y5⟩ := cells6s k1
  have e0 := k2.cell (k := 0) rfl
  have e1 := k2.frozen 0
  clear k1 k2 b2
  go_wp2_with fail
  refine ⟨_, par_results _ w.heap.size _ _ _ _ _ _ 3 ((blk6 HK.out.1).far1 (by omega) _ _) (((chg6s W w.heap.size).blk HK.out.2.1 (fun e => by have e2 : w.heap.size + 1 = w.heap.size := e; omega)).set_ 0 _) _ rfl rfl, none, none, 0, 0, 0, 0, ?_, ?_, ?_, UnfV.none _ _⟩
  · rw [HP.out]; rfl
  · rw [HP.out]; exact null_par _ _
  · exact (below6b HK.out.2.2 (Nat.le_refl _)).setCell (p := ⟨w.heap.size + 1, 0, none⟩) (Nat.le_succ _) _
structure PaSt (w : World) (s : List UInt8) (at_ : Nat) (U : Value) (F : Nat → Prop) (v : Jv) (A B : Option Addr) (nl cl nm cm : Nat) (W : World) : Prop where
  whole : Whole9 (w.heap.size + 1 + 1) W (w.heap.size + 1 + 1) s at_ U [] F v A B nl cl nm cm
  res : Blk W w.heap.size 25 [.int .i64 v.kd, .bool v.is, .int .i64 v.n, .string ⟨v.s.toArray⟩, .slice A nl cl, .slice B nm cm]
  err : Blk W (w.heap.size + 1) 26 [.int .i64 0]
  below : Below w.heap.size w W
theorem PaSt.next {w W W' : World} {s : List UInt8} {at_ at' : Nat} {U : Value} {F : Nat → Prop} {v : Jv} {A B : Option Addr} {nl cl nm cm : Nat} (h : PaSt w s at_ U F v A B nl cl nm cm W) (hc : Chg (· = w.heap.size + 1 + 1) W W') (h2 : RSt (w.heap.size + 1 + 1) W' (w.heap.size + 1 + 1) s at' U []) : PaSt w s at' U F v A B nl cl nm cm W' :=
  ⟨⟨h2, h.whole.2.1.to (fun b o hb => hc.cell (h.whole.2.2.1 b hb).2.1 (h.whole.2.2.1 b hb).2.2.1) (fun _ h => h), fun b hb => ⟨(h.whole.2.2.1 b hb).1, Nat.lt_of_lt_of_le (h.whole.2.2.1 b hb).2.1 hc.size, (h.whole.2.2.1 b hb).2.2⟩, fun f hf => (by cases hf), h.whole.2.2.2.2.to (fun b hb => hc.block b (h.whole.2.2.1 b hb).2.1 (h.whole.2.2.1 b hb).2.2.1)⟩, hc.blk h.res (fun e => by have e2 : w.heap.size = w.heap.size + 1 + 1 := e; omega), hc.blk h.err (fun e => by have e2 : w.heap.size + 1 = w.heap.size + 1 + 1 := e; omega), hc.below h.below (Nat.le_of_lt h.res.lt) (fun b _ e => by have e2 : b = w.heap.size + 1 + 1 := e; omega)⟩
theorem Blk.is3 {w W : World} {s : List UInt8} (hW : W = (((w.alloc (.cells #[.int .i64 0, .bool false, .int .i64 0, .string ⟨#[]⟩, .slice none 0 0, .slice none 0 0] 25)).alloc (.cells #[.int .i64 0] 26)).alloc (.cells #[.string ⟨s.toArray⟩, .int .i64 0, .slice none 0 0] 50))) : Blk W w.heap.size 25 [.int .i64 0, .bool false, .int .i64 0, .string ⟨#[]⟩, .slice none 0 0, .slice none 0 0] ∧ Blk W (w.heap.size + 1) 26 [.int .i64 0] ∧ Blk W (w.heap.size + 1 + 1) 50 [.string ⟨s.toArray⟩, .int .i64 0, .slice none 0 0] ∧ Below w.heap.size w W := by
  subst hW
  refine ⟨?_, ?_, ?_, ?_⟩
  · have := ((Blk.new w [.int .i64 0, .bool false, .int .i64 0, .string ⟨#[]⟩, .slice none 0 0, .slice none 0 0] 25).alloc (.cells #[.int .i64 0] 26)).alloc (.cells #[.string ⟨s.toArray⟩, .int .i64 0, .slice none 0 0] 50)
    simpa using this
  · have := (Blk.new (w.alloc (.cells #[.int .i64 0, .bool false, .int .i64 0, .string ⟨#[]⟩, .slice none 0 0, .slice none 0 0] 25)) [.int .i64 0] 26).alloc (.cells #[.string ⟨s.toArray⟩, .int .i64 0, .slice none 0 0] 50)
    simpa using this
  · have := Blk.new ((w.alloc (.cells #[.int .i64 0, .bool false, .int .i64 0, .string ⟨#[]⟩, .slice none 0 0, .slice none 0 0] 25)).alloc (.cells #[.int .i64 0] 26)) [.string ⟨s.toArray⟩, .int .i64 0, .slice none 0 0] 50
    simpa using this
  · exact (((Below.refl _ _).alloc (Nat.le_refl _) _).alloc (by simp) _).alloc (by simp; omega) _
set_option maxHeartbeats 4000000 in
theorem parse_short (s : List UInt8) (w : World) (hE : ErrC w) (h6 : s.length ≤ 65536) : Calls Tryz.prog 8 #[.string ⟨s.toArray⟩] w (ParPost w s) := by
  have HP := Lib.hid (show parF s = (match pV 0 s with | .error e => (nullJ, e) | .ok p => if (skipB p.2).isEmpty then (p.1, 0) else (nullJ, 4)) by unfold parF; rw [if_neg (by omega)]; rfl)
  have hmf : ∀ (fn : Fn) (first cap : Array Value) (w : World), (Instr.makeFunc fn first cap).run Tryz.prog w = .ok (.func fn first cap) w := fun _ _ _ _ => rfl
  obtain ⟨n, hn⟩ : ∃ n, s.length = n := ⟨_, rfl⟩
  have hsz : (⟨s.toArray⟩ : ByteArray).size = n := hn
  have hg1 : ¬ (65536 : Int) < (n : Int) := by omega
  have hg2 : decide ((65536 : Int) < (n : Int)) = false := by simpa using hg1
  obtain ⟨W3, hW3⟩ : ∃ W3, W3 = (((w.alloc (.cells #[.int .i64 0, .bool false, .int .i64 0, .string ⟨#[]⟩, .slice none 0 0, .slice none 0 0] 25)).alloc (.cells #[.int .i64 0] 26)).alloc (.cells #[.string ⟨s.toArray⟩, .int .i64 0, .slice none 0 0] 50)) := ⟨_, rfl⟩
  obtain ⟨k1, k2, k3, b3⟩ := Blk.is3 hW3
  have hst : RSt (w.heap.size + 1 + 1) W3 (w.heap.size + 1 + 1) s 0 (.slice none 0 0) [] :=
    ⟨k3, World.ownsRow_nil _ _ _ _, fun b e => (by cases e), fun f hf => (by cases hf), fun f hf => (by cases hf), List.Pairwise.nil, Nat.le_refl _, Nat.zero_le _, Nat.zero_le _, h6, fun f hf => (by cases hf)⟩
  have HV := all_calls (w.heap.size + 1 + 1) W3 (w.heap.size + 1 + 1) s 0 (.slice none 0 0) hst (hE.below b3 hE.1) (by have := hE.1; omega)
  have HK := Lib.hid (And.intro k1 (And.intro k2 b3))
  rw [hW3] at HV
  have HW3 := Lib.hid hW3
  have HN := Lib.hid hn
  clear hst hE h6 k1 k2 k3 b3 hW3 hn
  rw [List.drop_zero] at HV
  go_enter_defers Tryz.func8, Tryz.ntmps8
  go_wp2_with fail
  refine HV.mono ?_
  rintro e w2 ⟨c2, ⟨c, hc, rfl⟩ | ⟨at', U, F, v, A, B, nl, cl, nm, cm, rfl, hw9, hok⟩⟩
  · rw [← HW3.out] at c2
    have h1 : Blk w2 w.heap.size 25 [.int .i64 0, .bool false, .int .i64 0, .string ⟨#[]⟩, .slice none 0 0, .slice none 0 0] := (c2.block _ (by omega)).trans HK.out.1
    have h2 : Blk w2 (w.heap.size + 1) 26 [.int .i64 0] := (c2.block _ (by omega)).trans HK.out.2.1
    have HC := Lib.hid (And.intro h1 (And.intro h2 (And.intro (HK.out.2.2.trans (c2.mono (by omega))) (show parF s = (nullJ, c) by rw [HP.out, hc]))))
    clear c2 hc h1 h2
    go_wp2_with fail
    refine leaves_cons (f := 21) (args := #[.pointer (some ⟨w.heap.size, 0, none⟩), .pointer (some ⟨w.heap.size + 1, 0, none⟩)]) (by simp) (by simp [go_sem]) ?_
    refine (pcatch_panicking w.heap.size c 0 _ _ _ _ _ _ [] _ HC.out.1 HC.out.2.1).mono ?_
    rintro e u' w'' ⟨rfl, rfl, WR, hbR, rfl⟩
    refine ⟨_, par_results _ w.heap.size _ _ _ _ _ _ c ((blk6 (HC.out.1.later hbR)).far1 (by omega) _ _) (((chg6s WR w.heap.size).blk (HC.out.2.1.later hbR) (fun e => by have e2 : w.heap.size + 1 = w.heap.size := e; omega)).set_ 0 _) _ rfl rfl, none, none, 0, 0, 0, 0, ?_, ?_, ?_, UnfV.none _ _⟩
    · rw [HC.out.2.2.2]; rfl
    · rw [HC.out.2.2.2]; exact null_par _ _
    · exact (below6b (HC.out.2.2.1.trans (hbR.mono (by have := HC.out.1.lt; omega))) (Nat.le_refl _)).setCell (p := ⟨w.heap.size + 1, 0, none⟩) (Nat.le_succ _) _
  · rw [← HW3.out] at c2
    have h1 : Blk w2 w.heap.size 25 [.int .i64 0, .bool false, .int .i64 0, .string ⟨#[]⟩, .slice none 0 0, .slice none 0 0] := (c2.block _ (by omega)).trans HK.out.1
    have h2 : Blk w2 (w.heap.size + 1) 26 [.int .i64 0] := (c2.block _ (by omega)).trans HK.out.2.1
    have hb : Below w.heap.size w w2 := HK.out.2.2.trans (c2.mono (by omega))
    have hF : ∀ b, F b → w.heap.size + 1 + 1 ≤ b := fun b hb => (hw9.2.2.1 b hb).1
    have HS := Lib.hid (show PaSt w s at' U F v A B nl cl nm cm (set6 w2 w.heap.size (.int .i64 v.kd) (.bool v.is) (.int .i64 v.n) (.string ⟨v.s.toArray⟩) (.slice A nl cl) (.slice B nm cm)) from
      ⟨hw9.set6 h1 (fun h => by have := hF _ h; omega), blk6 h1, (chg6s w2 w.heap.size).blk h2 (fun e => by have e2 : w.heap.size + 1 = w.heap.size := e; omega), below6b hb (Nat.le_refl _)⟩)
    have HOK := Lib.hid (show parF s = (if (skipB (s.drop at')).isEmpty then (v, 0) else (nullJ, 4)) by rw [HP.out, hok])
    obtain ⟨z0, z1, z2, z3, z4, z5, y0, y1, y2, y3, y4, y5⟩ := cells6s h1
    clear c2 hw9 hok h1 h2 hb hF HK HW3 HP
    unfold valC
    go_upto_region 6 with fail
    refine wp_gen (fun W => PaSt w s at' U F v A B nl cl nm cm W) HS.out ?_
    clear HS z0 z1 z2 z3 z4 z5 y0 y1 y2 y3 y4 y5
    rintro W4 HS4
    have H4 := Lib.hid HS4
    clear HS4
    go_wp2_with fail
    refine (next_calls (w.heap.size + 1 + 1) _ (w.heap.size + 1 + 1) s at' _ _ H4.out.whole.1).mono ?_
    rintro e W5 ⟨k, rfl, n1, n2, n3, n4⟩
    have H5 := Lib.hid (And.intro (H4.out.next n4 n3) n1)
    have d1 := n3.blk.cell (k := 1) rfl
    have hkn : k ≤ n := by rw [← HN.out]; exact n3.hat
    clear n1 n2 n3 n4 H4
    cases hk : s.drop k with
    | nil =>
      have hge : ¬ (k : Int) < (n : Int) := by
        have := congrArg List.length hk
        rw [List.length_drop, HN.out] at this
        simp at this
        omega
      have hge2 : decide ((k : Int) < (n : Int)) = false := by simpa using hge
      have HE := Lib.hid (show parF s = (v, 0) by rw [HOK.out, ← H5.out.2, hk]; rfl)
      rw [show headU ([] : List UInt8) = 0 from rfl]
      obtain ⟨z0, z1, z2, z3, z4, z5, y0, y1, y2, y3, y4, y5⟩ := cells6s H5.out.1.res
      have e0 := H5.out.1.err.cell (k := 0) rfl
      have e1 := H5.out.1.err.frozen 0
      go_wp2_with fail
      refine leaves_cons (f := 21) (args := #[.pointer (some ⟨w.heap.size, 0, none⟩), .pointer (some ⟨w.heap.size + 1, 0, none⟩)]) (by simp) (by simp [go_sem]) ?_
      refine (pcatch_idle ⟨w.heap.size, 0, none⟩ ⟨w.heap.size + 1, 0, none⟩ _).mono ?_
      rintro e u' w'' ⟨rfl, rfl, rfl⟩
      have hF : ∀ b, F b → w.heap.size + 1 + 1 ≤ b ∧ b < W5.heap.size := fun b hb => ⟨(H5.out.1.whole.2.2.1 b hb).1, (H5.out.1.whole.2.2.1 b hb).2.1⟩
      have hc6 : Chg (fun b => b = w.heap.size ∨ b = w.heap.size + 1) W5 ((set6 W5 w.heap.size (.int .i64 v.kd) (.bool v.is) (.int .i64 v.n) (.string ⟨v.s.toArray⟩) (.slice A nl cl) (.slice B nm cm)).setCell ⟨w.heap.size + 1, 0, none⟩ (.int .i64 0)) := ((chg6s W5 w.heap.size).mono (fun b _ e => .inl e)).setCell (.inl (.inr rfl)) _
      refine ⟨_, par_results _ w.heap.size _ _ _ _ _ _ 0 ((blk6 H5.out.1.res).far1 (by omega) _ _) (((chg6s W5 w.heap.size).blk H5.out.1.err (fun e => by have e2 : w.heap.size + 1 = w.heap.size := e; omega)).set_ 0 _) _ rfl rfl, A, B, nl, cl, nm, cm, ?_, ?_, ?_, fun a ha => ⟨by have h8 := hF _ (H5.out.1.whole.2.2.2.2 a ha).1; exact ⟨by omega, Nat.lt_of_lt_of_le h8.2 hc6.size⟩, by
        obtain ⟨h7, T, cs, h8⟩ := H5.out.1.whole.2.2.2.2 a ha
        exact ⟨T, cs, hc6.blk h8 (fun e => by have := (hF _ h7).1; omega)⟩⟩⟩
      · rw [HE.out]; rfl
      · rw [HE.out]
        exact H5.out.1.whole.2.1.to (fun b o hb => hc6.cell (hF b hb).2 (fun e => by have := (hF b hb).1; omega)) (fun b hb => ⟨by have := (hF b hb).1; omega, Nat.lt_of_lt_of_le (hF b hb).2 hc6.size⟩)
      · exact (below6b H5.out.1.below (Nat.le_refl _)).setCell (p := ⟨w.heap.size + 1, 0, none⟩) (Nat.le_succ _) _
    | cons c q =>
      have hlt : (k : Int) < (n : Int) := by
        have := congrArg List.length hk
        rw [List.length_drop, HN.out] at this
        simp at this
        omega
      have hlt2 : decide ((k : Int) < (n : Int)) = true := by simpa using hlt
      have HE := Lib.hid (show parF s = (nullJ, 4) by rw [HOK.out, ← H5.out.2, hk]; rfl)
      obtain ⟨z, hz⟩ : ∃ z, headU (c :: q) = z := ⟨_, rfl⟩
      rw [hz]
      clear hz
      by_cases hzz : z = 0
      · subst hzz
        go_wp2_with fail
        refine (giveUp_calls 4 _).mono ?_
        rintro e w6 ⟨rfl, rfl⟩
        go_wp2_with fail
        refine leaves_cons (f := 21) (args := #[.pointer (some ⟨w.heap.size, 0, none⟩), .pointer (some ⟨w.heap.size + 1, 0, none⟩)]) (by simp) (by simp [go_sem]) ?_
        refine (pcatch_panicking w.heap.size 4 0 _ _ _ _ _ _ [] _ H5.out.1.res H5.out.1.err).mono ?_
        rintro e u' w'' ⟨rfl, rfl, WR, hbR, rfl⟩
        refine ⟨_, par_results _ w.heap.size _ _ _ _ _ _ 4 ((blk6 (H5.out.1.res.later hbR)).far1 (by omega) _ _) (((chg6s WR w.heap.size).blk (H5.out.1.err.later hbR) (fun e => by have e2 : w.heap.size + 1 = w.heap.size := e; omega)).set_ 0 _) _ rfl rfl, none, none, 0, 0, 0, 0, ?_, ?_, ?_, UnfV.none _ _⟩
        · rw [HE.out]; rfl
        · rw [HE.out]; exact null_par _ _
        · exact (below6b (H5.out.1.below.trans (hbR.mono (by have := H5.out.1.res.lt; omega))) (Nat.le_refl _)).setCell (p := ⟨w.heap.size + 1, 0, none⟩) (Nat.le_succ _) _
      · have hz1 : ((z : Int) != 0) = true := by simp; omega
        have hz2 : ((z : Int) == 0) = false := by simp; omega
        go_wp2_with fail
        refine (giveUp_calls 4 _).mono ?_
        rintro e w6 ⟨rfl, rfl⟩
        go_wp2_with fail
        refine leaves_cons (f := 21) (args := #[.pointer (some ⟨w.heap.size, 0, none⟩), .pointer (some ⟨w.heap.size + 1, 0, none⟩)]) (by simp) (by simp [go_sem]) ?_
        refine (pcatch_panicking w.heap.size 4 0 _ _ _ _ _ _ [] _ H5.out.1.res H5.out.1.err).mono ?_
        rintro e u' w'' ⟨rfl, rfl, WR, hbR, rfl⟩
        refine ⟨_, par_results _ w.heap.size _ _ _ _ _ _ 4 ((blk6 (H5.out.1.res.later hbR)).far1 (by omega) _ _) (((chg6s WR w.heap.size).blk (H5.out.1.err.later hbR) (fun e => by have e2 : w.heap.size + 1 = w.heap.size := e; omega)).set_ 0 _) _ rfl rfl, none, none, 0, 0, 0, 0, ?_, ?_, ?_, UnfV.none _ _⟩
        · rw [HE.out]; rfl
        · rw [HE.out]; exact null_par _ _
        · exact (below6b (H5.out.1.below.trans (hbR.mono (by have := H5.out.1.res.lt; omega))) (Nat.le_refl _)).setCell (p := ⟨w.heap.size + 1, 0, none⟩) (Nat.le_succ _) _
theorem parse_calls (s : List UInt8) (w : World) (hE : ErrC w) (hl : s.length ≤ 140737488355328) : Calls Tryz.prog 8 #[.string ⟨s.toArray⟩] w (ParPost w s) := by
  by_cases h6 : 65536 < s.length
  · exact parse_long s w hl h6
  · exact parse_short s w hE (by omega)
end Go.Proofs.YtajkgcmopmpihaaGreatDoor
namespace Go.Proofs.YtajkgcmopmpihaaGreatDoor
open Go.Lib
set_option linter.unusedVariables false
def valL (acc : Nat) : List UInt8 → Nat
  | [] => acc
  | c :: r => valL (acc * 10 + (c.toNat - 48)) r
theorem valL_app (acc : Nat) (l m : List UInt8) : valL acc (l ++ m) = valL (valL acc l) m := by
  induction l generalizing acc with
  | nil => rfl
  | cons c l ih => exact ih _
theorem valL_ge (acc : Nat) (l : List UInt8) : acc ≤ valL acc l := by
  induction l generalizing acc with
  | nil => exact Nat.le_refl _
  | cons c l ih => exact Nat.le_trans (Nat.le_trans (Nat.le_mul_of_pos_right acc (by decide)) (Nat.le_add_right _ _)) (ih (acc * 10 + (c.toNat - 48)))
theorem digB_iff (c : UInt8) : digB c = true ↔ 48 ≤ c.toNat ∧ c.toNat ≤ 57 := by simp [digB]
theorem dec_digs (u : Nat) : ∀ c ∈ decDigits u, digB c = true := by
  induction u using Nat.strongRecOn with
  | _ u ih =>
    intro c hc
    rw [decDigits] at hc
    split at hc
    · rw [List.mem_singleton.1 hc, digB_iff]; simp; omega
    · rcases List.mem_append.1 hc with h | h
      · exact ih (u / 10) (by omega) c h
      · rw [List.mem_singleton.1 h, digB_iff]; simp; omega
theorem dec_ne (u : Nat) : decDigits u ≠ [] := by
  rw [decDigits]; split <;> simp
theorem dec_head (u : Nat) (h : 10 ≤ u) : (decDigits u).head? ≠ some 48 := by
  induction u using Nat.strongRecOn with
  | _ u ih =>
    rw [decDigits, dif_neg (by omega)]
    have hne := dec_ne (u / 10)
    rw [show (decDigits (u / 10) ++ [UInt8.ofNat (48 + u % 10)]).head? = (decDigits (u / 10)).head? by cases h : decDigits (u / 10) with | nil => exact absurd h hne | cons c q => rfl]
    by_cases h10 : 10 ≤ u / 10
    · exact ih (u / 10) (by omega) h10
    · rw [decDigits, dif_pos (by omega)]
      simp
      intro e
      have := congrArg UInt8.toNat e
      simp at this
      omega
theorem dec_small (u : Nat) (h : u < 10) : (decDigits u).length = 1 := by rw [decDigits, dif_pos h]; rfl
theorem dig_ne (c : UInt8) (h : digB c = true) : c.toNat ≠ 45 ∧ c.toNat ≠ 43 := by have := (digB_iff c).1 h; omega
theorem take_all {p : UInt8 → Bool} : ∀ (l rest : List UInt8), (∀ c ∈ l, p c = true) → (∀ c, rest.head? = some c → p c = false) → (l ++ rest).takeWhile p = l ∧ (l ++ rest).dropWhile p = rest
  | [], rest, _, h => by
    cases rest with
    | nil => exact ⟨rfl, rfl⟩
    | cons c r => simp [h c rfl]
  | c :: l, rest, hl, h => by
    have := take_all l rest (fun x hx => hl x (by simp [hx])) h
    have hc := hl c (by simp)
    simp [hc, this]
theorem whole_dec (u : Nat) : (decDigits u).takeWhile digB = decDigits u ∧ (decDigits u).dropWhile digB = [] := by
  have := take_all (p := digB) (decDigits u) [] (dec_digs u) (by simp)
  simpa using this
theorem whole_tail (u : Nat) : (if ((decDigits u).takeWhile digB).isEmpty || (decide (1 < ((decDigits u).takeWhile digB).length) && (decDigits u).head? == some 48) then (false, false) else fracF ((decDigits u).dropWhile digB)) = (true, false) := by
  obtain ⟨h1, h2⟩ := whole_dec u
  rw [h1, h2]
  have hne := dec_ne u
  have h3 : (decDigits u).isEmpty = false := by cases h : decDigits u <;> simp_all
  rw [h3]
  by_cases h10 : u < 10
  · rw [dec_small u h10]; rfl
  · have := dec_head u (by omega)
    have h4 : ((decDigits u).head? == some 48) = false := by rw [beq_eq_false_iff_ne]; exact this
    rw [h4]; simp [fracF]
end Go.Proofs.YtajkgcmopmpihaaGreatDoor
