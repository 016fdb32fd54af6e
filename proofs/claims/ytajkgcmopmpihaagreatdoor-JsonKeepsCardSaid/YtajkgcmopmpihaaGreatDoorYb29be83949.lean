/- Texts put together: JpE Wa JpF. -/
import Derived.Test.YtajkgcmopmpihaaGreatDoorY79bf1f75f6
import Derived.Test.YtajkgcmopmpihaaGreatDoorShelfK
import Derived.Deep.RegionHeld3
import Derived.Deep.QuietTactic
import Derived.BigQuiet
import Derived.Test.YtajkgcmopmpihaaGreatDoorY29e14c7a23
namespace Go.Proofs.YtajkgcmopmpihaaGreatDoor
open Go.ChangeShapes Go.WideShapes Go.ChangeAt Go.RowKit Go.IntWalk
set_option linter.unusedVariables false
set_option maxRecDepth 100000
def headU (l : List UInt8) : Nat := match l with | [] => 0 | c :: _ => c.toNat
def cellN (w : World) (a : Addr) : Nat := match w.cell? a with | some (.int _ z) => z.toNat | _ => 0
def NxPost (base : Nat) (w : World) (r : Nat) (s : List UInt8) (at_ : Nat) (U : Value) (fs : List Frm) (e : Ending) (w' : World) : Prop :=
  ∃ at', e = .returned (.int .u8 (headU (s.drop at') : Int)) ∧ s.drop at' = skipB (s.drop at_) ∧ at_ ≤ at' ∧ RSt base w' r s at' U fs ∧ Chg (· = r) w w'
def bi (c : UInt8) : Int := Lib.indexByte [32, 9, 10, 13] c
theorem bi_iff (c : UInt8) : (0 ≤ bi c) ↔ blankB c = true := by
  unfold bi blankB
  constructor
  · intro h
    by_cases h1 : c = 32
    · subst h1; rfl
    by_cases h2 : c = 9
    · subst h2; rfl
    by_cases h3 : c = 10
    · subst h3; rfl
    by_cases h4 : c = 13
    · subst h4; rfl
    have e1 : ((32 : UInt8) == c) = false := by rw [beq_eq_false_iff_ne]; exact Ne.symm h1
    have e2 : ((9 : UInt8) == c) = false := by rw [beq_eq_false_iff_ne]; exact Ne.symm h2
    have e3 : ((10 : UInt8) == c) = false := by rw [beq_eq_false_iff_ne]; exact Ne.symm h3
    have e4 : ((13 : UInt8) == c) = false := by rw [beq_eq_false_iff_ne]; exact Ne.symm h4
    simp [Lib.indexByte, e1, e2, e3, e4] at h
  · intro h
    simp only [Bool.or_eq_true, beq_iff_eq] at h
    rcases h with ((h | h) | h) | h <;> subst h <;> decide
theorem bi_calls (c : UInt8) (w : World) : Calls Tryz.prog 37 #[.string ⟨#[32, 9, 10, 13]⟩, .int .u8 (c.toNat : Int)] w fun e w' => e = .returned (.int .i64 (bi c)) ∧ w' = w := by
  refine (Tryz.strings_IndexByte ⟨#[32, 9, 10, 13]⟩ c.toNat w).mono ?_
  rintro e w' ⟨rfl, rfl⟩
  refine ⟨?_, rfl⟩
  simp [bi]
theorem skip_cons (c : UInt8) (l : List UInt8) : skipB (c :: l) = if blankB c = true then skipB l else c :: l := by
  unfold skipB; rw [List.dropWhile_cons]
set_option maxHeartbeats 4000000 in
theorem next_calls (base : Nat) (w : World) (r : Nat) (s : List UInt8) (at_ : Nat) (U : Value) (fs : List Frm) (h : RSt base w r s at_ U fs) : Calls Tryz.prog 23 #[.pointer (some ⟨r, 0, none⟩)] w (NxPost base w r s at_ U fs) := by
  have H := Lib.hid h
  obtain ⟨n, hn⟩ : ∃ n, s.length = n := ⟨_, rfl⟩
  have hsz : (⟨s.toArray⟩ : ByteArray).size = n := hn
  have HN := Lib.hid hn
  have hn6 : n ≤ 65536 := by rw [← hn]; exact h.hs
  clear h hn
  go_enter Tryz.func23, Tryz.ntmps23
  go_wp2_with fail
  go_loopw [] (fun wr => ∃ k : Nat, k ≤ n ∧ Hid (RSt base wr r s k U fs ∧ Chg (· = r) w wr ∧ skipB (s.drop at_) = skipB (s.drop k) ∧ at_ ≤ k)) (fun wr => n - cellN wr ⟨r, 1, none⟩)
  case atStart => exact ⟨at_, by rw [← HN.out]; exact H.out.hat, Lib.hid ⟨H.out, Chg.refl _ _, rfl, Nat.le_refl _⟩⟩
  case round =>
    obtain ⟨k, hk, HK⟩ := hrel
    have d0 := HK.out.1.blk.cell (k := 0) rfl
    have d1 := HK.out.1.blk.cell (k := 1) rfl
    have HL := Lib.hid HK.out.1.lt
    by_cases hp : k < n
    · have hp2 : k < s.length := by rw [HN.out]; exact hp
      obtain ⟨c, hc⟩ : ∃ c, s[k] = c := ⟨_, rfl⟩
      have HD := Lib.hid (show s.drop k = c :: s.drop (k + 1) by rw [List.drop_eq_getElem_cons hp2, hc])
      obtain ⟨q, hq⟩ : ∃ q, bi c = q := ⟨_, rfl⟩
      have HB := Lib.hid (bi_iff c)
      rw [hq] at HB
      have HC := Lib.hid (bi_calls c)
      rw [hq] at HC
      clear hq
      have HS1 := HK.out.2.2.1
      rw [HD.out, skip_cons] at HS1
      have hHS := Lib.hid HS1
      clear HS1
      have hk2 : (k : Int) < (n : Int) := by omega
      by_cases hbl : blankB c = true
      · have hq1 : (0 : Int) ≤ q := HB.out.2 hbl
        have HSK := Lib.hid (show skipB (s.drop at_) = skipB (s.drop (k + 1)) by rw [hHS.out, if_pos hbl])
        clear hbl HB
        go_upto_region 1 with fail
        apply wp_region_lk (by kernel_rfl) (by kernel_rfl)
        apply lk_pure _ rfl (by intro W; go_simp; rfl)
        simp only [Act.put, List.setIfInBounds_toArray, List.set_cons_succ, List.set_cons_zero]
        apply lk_pure _ rfl (by intro W; go_simp; rfl)
        simp only [Act.put, List.setIfInBounds_toArray, List.set_cons_succ, List.set_cons_zero]
        apply lk_pure _ rfl (by intro W; go_simp; rfl)
        simp only [Act.put, List.setIfInBounds_toArray, List.set_cons_succ, List.set_cons_zero]
        apply lk_cell (.int .i64 (k : Int)) (r) (1) d1 HL.out rfl (by intro W hW; go_simp)
        simp only [Act.put, List.setIfInBounds_toArray, List.set_cons_succ, List.set_cons_zero]
        apply lk_pure _ rfl (by intro W; go_simp; rfl)
        simp only [Act.put, List.setIfInBounds_toArray, List.set_cons_succ, List.set_cons_zero]
        apply lk_pure _ rfl (by intro W; go_simp; rfl)
        simp only [Act.put, List.setIfInBounds_toArray, List.set_cons_succ, List.set_cons_zero]
        apply lk_pure _ rfl (by intro W; go_simp; rfl)
        simp only [Act.put, List.setIfInBounds_toArray, List.set_cons_succ, List.set_cons_zero]
        apply lk_cell (.string ⟨s.toArray⟩) (r) (0) d0 HL.out rfl (by intro W hW; go_simp)
        simp only [Act.put, List.setIfInBounds_toArray, List.set_cons_succ, List.set_cons_zero]
        apply lk_pure _ rfl (by intro W; go_simp; rfl)
        simp only [Act.put, List.setIfInBounds_toArray, List.set_cons_succ, List.set_cons_zero]
        apply lk_pure _ rfl (by intro W; go_simp; rfl)
        simp only [Act.put, List.setIfInBounds_toArray, List.set_cons_succ, List.set_cons_zero]
        apply lk_pure _ rfl (by intro W; go_simp; rfl)
        simp only [Act.put, List.setIfInBounds_toArray, List.set_cons_succ, List.set_cons_zero]
        apply lk_pure _ rfl (by intro W; go_simp; rfl)
        simp only [Act.put, List.setIfInBounds_toArray, List.set_cons_succ, List.set_cons_zero]
        apply lk_pure _ rfl (by intro W; go_simp; rfl)
        simp only [Act.put, List.setIfInBounds_toArray, List.set_cons_succ, List.set_cons_zero]
        apply lk_pure _ rfl (by intro W; go_simp; rfl)
        simp only [Act.put, List.setIfInBounds_toArray, List.set_cons_succ, List.set_cons_zero]
        apply lk_cell (.string ⟨s.toArray⟩) (r) (0) d0 HL.out rfl (by intro W hW; go_simp)
        simp only [Act.put, List.setIfInBounds_toArray, List.set_cons_succ, List.set_cons_zero]
        apply lk_pure _ rfl (by intro W; go_simp; rfl)
        simp only [Act.put, List.setIfInBounds_toArray, List.set_cons_succ, List.set_cons_zero]
        apply lk_pure _ rfl (by intro W; go_simp; rfl)
        simp only [Act.put, List.setIfInBounds_toArray, List.set_cons_succ, List.set_cons_zero]
        apply lk_pure _ rfl (by intro W; go_simp; rfl)
        simp only [Act.put, List.setIfInBounds_toArray, List.set_cons_succ, List.set_cons_zero]
        apply lk_cell (.int .i64 (k : Int)) (r) (1) d1 HL.out rfl (by intro W hW; go_simp)
        simp only [Act.put, List.setIfInBounds_toArray, List.set_cons_succ, List.set_cons_zero]
        apply lk_pure _ rfl (by intro W; go_simp; rfl)
        simp only [Act.put, List.setIfInBounds_toArray, List.set_cons_succ, List.set_cons_zero]
        apply lk_call (Lft.bare (· = .int .i64 q)) 37 #[.string ⟨#[32, 9, 10, 13]⟩, .int .u8 (c.toNat : Int)] rfl (by intro W; first | (go_simp; done) | (go_simp; exact ⟨rfl, rfl⟩)) (fun W hW => (HC.out W).mono fun en W' ⟨h1, h2⟩ => ⟨_, h1, rfl, trivial, by subst h2; exact Below.refl _ _⟩)
        rintro _ rfl
        simp only [Act.put, List.setIfInBounds_toArray, List.set_cons_succ, List.set_cons_zero]
        apply lk_pure _ rfl (by intro W; go_simp; rfl)
        simp only [Act.put, List.setIfInBounds_toArray, List.set_cons_succ, List.set_cons_zero]
        apply lk_pure _ rfl (by intro W; go_simp; rfl)
        simp only [Act.put, List.setIfInBounds_toArray, List.set_cons_succ, List.set_cons_zero]
        refine lk_nil (Fs := []) ?_
        intro w7 hb7 hz
        have HK2 := Lib.hid (And.intro (HK.out.1.later hb7) (HK.out.2.1.thenB hb7))
        have d1' := HK2.out.1.blk.cell (k := 1) rfl
        have f1' := HK2.out.1.blk.frozen 1
        clear d0 d1 hb7 hz
        go_wp2_with fail
        have hb9 : Blk (w7.setCell ⟨r, 1, none⟩ (.int .i64 ((k : Int) + 1))) r 50 [.string ⟨s.toArray⟩, .int .i64 ((k + 1 : Nat) : Int), U] := HK2.out.1.blk.set_ 1 (.int .i64 ((k : Int) + 1))
        refine ⟨⟨k + 1, by omega, Lib.hid ⟨HK2.out.1.move (Chg.set1 (C := (· = r)) rfl _ _) hb9 (by omega) (by rw [HN.out]; omega), HK2.out.2.setCell (.inl rfl) _, HSK.out, by have := HK.out.2.2.2; omega⟩⟩, ?_⟩
        have hcn : cellN (w7.setCell ⟨r, 1, none⟩ (.int .i64 ((k : Int) + 1))) ⟨r, 1, none⟩ = k + 1 := by unfold cellN; rw [hb9.cell (k := 1) rfl]; rfl
        have hcr : cellN wr ⟨r, 1, none⟩ = k := by unfold cellN; rw [HK.out.1.blk.cell (k := 1) rfl]; rfl
        rw [hcn, hcr]; omega
      · have hq1 : ¬ (0 : Int) ≤ q := fun h => hbl (HB.out.1 h)
        have hqd : decide ((0 : Int) ≤ q) = false := decide_eq_false hq1
        have HSK := Lib.hid (show s.drop k = skipB (s.drop at_) by rw [hHS.out, if_neg hbl, HD.out])
        clear hbl HB
        go_upto_region 1 with fail
        apply wp_region_lk (by kernel_rfl) (by kernel_rfl)
        apply lk_pure _ rfl (by intro W; go_simp; rfl)
        simp only [Act.put, List.setIfInBounds_toArray, List.set_cons_succ, List.set_cons_zero]
        apply lk_pure _ rfl (by intro W; go_simp; rfl)
        simp only [Act.put, List.setIfInBounds_toArray, List.set_cons_succ, List.set_cons_zero]
        apply lk_pure _ rfl (by intro W; go_simp; rfl)
        simp only [Act.put, List.setIfInBounds_toArray, List.set_cons_succ, List.set_cons_zero]
        apply lk_cell (.int .i64 (k : Int)) (r) (1) d1 HL.out rfl (by intro W hW; go_simp)
        simp only [Act.put, List.setIfInBounds_toArray, List.set_cons_succ, List.set_cons_zero]
        apply lk_pure _ rfl (by intro W; go_simp; rfl)
        simp only [Act.put, List.setIfInBounds_toArray, List.set_cons_succ, List.set_cons_zero]
        apply lk_pure _ rfl (by intro W; go_simp; rfl)
        simp only [Act.put, List.setIfInBounds_toArray, List.set_cons_succ, List.set_cons_zero]
        apply lk_pure _ rfl (by intro W; go_simp; rfl)
        simp only [Act.put, List.setIfInBounds_toArray, List.set_cons_succ, List.set_cons_zero]
        apply lk_cell (.string ⟨s.toArray⟩) (r) (0) d0 HL.out rfl (by intro W hW; go_simp)
        simp only [Act.put, List.setIfInBounds_toArray, List.set_cons_succ, List.set_cons_zero]
        apply lk_pure _ rfl (by intro W; go_simp; rfl)
        simp only [Act.put, List.setIfInBounds_toArray, List.set_cons_succ, List.set_cons_zero]
        apply lk_pure _ rfl (by intro W; go_simp; rfl)
        simp only [Act.put, List.setIfInBounds_toArray, List.set_cons_succ, List.set_cons_zero]
        apply lk_pure _ rfl (by intro W; go_simp; rfl)
        simp only [Act.put, List.setIfInBounds_toArray, List.set_cons_succ, List.set_cons_zero]
        apply lk_pure _ rfl (by intro W; go_simp; rfl)
        simp only [Act.put, List.setIfInBounds_toArray, List.set_cons_succ, List.set_cons_zero]
        apply lk_pure _ rfl (by intro W; go_simp; rfl)
        simp only [Act.put, List.setIfInBounds_toArray, List.set_cons_succ, List.set_cons_zero]
        apply lk_pure _ rfl (by intro W; go_simp; rfl)
        simp only [Act.put, List.setIfInBounds_toArray, List.set_cons_succ, List.set_cons_zero]
        apply lk_cell (.string ⟨s.toArray⟩) (r) (0) d0 HL.out rfl (by intro W hW; go_simp)
        simp only [Act.put, List.setIfInBounds_toArray, List.set_cons_succ, List.set_cons_zero]
        apply lk_pure _ rfl (by intro W; go_simp; rfl)
        simp only [Act.put, List.setIfInBounds_toArray, List.set_cons_succ, List.set_cons_zero]
        apply lk_pure _ rfl (by intro W; go_simp; rfl)
        simp only [Act.put, List.setIfInBounds_toArray, List.set_cons_succ, List.set_cons_zero]
        apply lk_pure _ rfl (by intro W; go_simp; rfl)
        simp only [Act.put, List.setIfInBounds_toArray, List.set_cons_succ, List.set_cons_zero]
        apply lk_cell (.int .i64 (k : Int)) (r) (1) d1 HL.out rfl (by intro W hW; go_simp)
        simp only [Act.put, List.setIfInBounds_toArray, List.set_cons_succ, List.set_cons_zero]
        apply lk_pure _ rfl (by intro W; go_simp; rfl)
        simp only [Act.put, List.setIfInBounds_toArray, List.set_cons_succ, List.set_cons_zero]
        apply lk_call (Lft.bare (· = .int .i64 q)) 37 #[.string ⟨#[32, 9, 10, 13]⟩, .int .u8 (c.toNat : Int)] rfl (by intro W; first | (go_simp; done) | (go_simp; exact ⟨rfl, rfl⟩)) (fun W hW => (HC.out W).mono fun en W' ⟨h1, h2⟩ => ⟨_, h1, rfl, trivial, by subst h2; exact Below.refl _ _⟩)
        rintro _ rfl
        simp only [Act.put, List.setIfInBounds_toArray, List.set_cons_succ, List.set_cons_zero]
        apply lk_pure _ rfl (by intro W; go_simp; rfl)
        simp only [Act.put, List.setIfInBounds_toArray, List.set_cons_succ, List.set_cons_zero]
        apply lk_pure _ rfl (by intro W; go_simp; rfl)
        simp only [Act.put, List.setIfInBounds_toArray, List.set_cons_succ, List.set_cons_zero]
        refine lk_nil (Fs := []) ?_
        intro w7 hb7 hz
        have HK2 := Lib.hid (And.intro (HK.out.1.later hb7) (HK.out.2.1.thenB hb7))
        have d0' := HK2.out.1.blk.cell (k := 0) rfl
        have d1' := HK2.out.1.blk.cell (k := 1) rfl
        have HL7 := Lib.hid HK2.out.1.lt
        have HKA := Lib.hid HK.out.2.2.2
        clear d0 d1 hb7 hz HK
        have hne : ((k : Int) == (n : Int)) = false := by rw [beq_eq_false_iff_ne]; omega
        go_upto_region 3 with fail
        apply wp_region_lk (by kernel_rfl) (by kernel_rfl)
        apply lk_pure _ rfl (by intro W; go_simp; rfl)
        simp only [Act.put, List.setIfInBounds_toArray, List.set_cons_succ, List.set_cons_zero]
        apply lk_pure _ rfl (by intro W; go_simp; rfl)
        simp only [Act.put, List.setIfInBounds_toArray, List.set_cons_succ, List.set_cons_zero]
        apply lk_pure _ rfl (by intro W; go_simp; rfl)
        simp only [Act.put, List.setIfInBounds_toArray, List.set_cons_succ, List.set_cons_zero]
        apply lk_cell (.int .i64 (k : Int)) (r) (1) d1' HL7.out rfl (by intro W hW; go_simp)
        simp only [Act.put, List.setIfInBounds_toArray, List.set_cons_succ, List.set_cons_zero]
        apply lk_pure _ rfl (by intro W; go_simp; rfl)
        simp only [Act.put, List.setIfInBounds_toArray, List.set_cons_succ, List.set_cons_zero]
        apply lk_pure _ rfl (by intro W; go_simp; rfl)
        simp only [Act.put, List.setIfInBounds_toArray, List.set_cons_succ, List.set_cons_zero]
        apply lk_pure _ rfl (by intro W; go_simp; rfl)
        simp only [Act.put, List.setIfInBounds_toArray, List.set_cons_succ, List.set_cons_zero]
        apply lk_cell (.string ⟨s.toArray⟩) (r) (0) d0' HL7.out rfl (by intro W hW; go_simp)
        simp only [Act.put, List.setIfInBounds_toArray, List.set_cons_succ, List.set_cons_zero]
        apply lk_pure _ rfl (by intro W; go_simp; rfl)
        simp only [Act.put, List.setIfInBounds_toArray, List.set_cons_succ, List.set_cons_zero]
        apply lk_pure _ rfl (by intro W; go_simp; rfl)
        simp only [Act.put, List.setIfInBounds_toArray, List.set_cons_succ, List.set_cons_zero]
        refine lk_nil (Fs := []) ?_
        intro w8 hb8 hz
        have HK3 := Lib.hid (And.intro (HK2.out.1.later hb8) (HK2.out.2.thenB hb8))
        have d0' := HK3.out.1.blk.cell (k := 0) rfl
        have d1' := HK3.out.1.blk.cell (k := 1) rfl
        have HL8 := Lib.hid HK3.out.1.lt
        clear hb8 hz HK2
        go_upto_region 5 with fail
        apply wp_region_lk (by kernel_rfl) (by kernel_rfl)
        apply lk_pure _ rfl (by intro W; go_simp; rfl)
        simp only [Act.put, List.setIfInBounds_toArray, List.set_cons_succ, List.set_cons_zero]
        apply lk_pure _ rfl (by intro W; go_simp; rfl)
        simp only [Act.put, List.setIfInBounds_toArray, List.set_cons_succ, List.set_cons_zero]
        apply lk_pure _ rfl (by intro W; go_simp; rfl)
        simp only [Act.put, List.setIfInBounds_toArray, List.set_cons_succ, List.set_cons_zero]
        apply lk_cell (.string ⟨s.toArray⟩) (r) (0) d0' HL8.out rfl (by intro W hW; go_simp)
        simp only [Act.put, List.setIfInBounds_toArray, List.set_cons_succ, List.set_cons_zero]
        apply lk_pure _ rfl (by intro W; go_simp; rfl)
        simp only [Act.put, List.setIfInBounds_toArray, List.set_cons_succ, List.set_cons_zero]
        apply lk_pure _ rfl (by intro W; go_simp; rfl)
        simp only [Act.put, List.setIfInBounds_toArray, List.set_cons_succ, List.set_cons_zero]
        apply lk_pure _ rfl (by intro W; go_simp; rfl)
        simp only [Act.put, List.setIfInBounds_toArray, List.set_cons_succ, List.set_cons_zero]
        apply lk_cell (.int .i64 (k : Int)) (r) (1) d1' HL8.out rfl (by intro W hW; go_simp)
        simp only [Act.put, List.setIfInBounds_toArray, List.set_cons_succ, List.set_cons_zero]
        apply lk_pure _ rfl (by intro W; go_simp; rfl)
        simp only [Act.put, List.setIfInBounds_toArray, List.set_cons_succ, List.set_cons_zero]
        apply lk_pure _ rfl (by intro W; go_simp; rfl)
        simp only [Act.put, List.setIfInBounds_toArray, List.set_cons_succ, List.set_cons_zero]
        refine lk_nil (Fs := []) ?_
        intro w9 hb9 hz
        go_wp2_with fail
        go_ret
        have HK4 := Lib.hid (And.intro (HK3.out.1.later hb9) (HK3.out.2.thenB hb9))
        exact ⟨k, by rw [HD.out]; rfl, HSK.out, HKA.out, HK4.out.1, HK4.out.2⟩
    · obtain rfl : n = k := by omega
      have HSK := Lib.hid (show s.drop n = [] by rw [← HN.out, List.drop_length])
      go_upto_region 1 with fail
      apply wp_region_lk (by kernel_rfl) (by kernel_rfl)
      apply lk_pure _ rfl (by intro W; go_simp; rfl)
      simp only [Act.put, List.setIfInBounds_toArray, List.set_cons_succ, List.set_cons_zero]
      apply lk_pure _ rfl (by intro W; go_simp; rfl)
      simp only [Act.put, List.setIfInBounds_toArray, List.set_cons_succ, List.set_cons_zero]
      apply lk_pure _ rfl (by intro W; go_simp; rfl)
      simp only [Act.put, List.setIfInBounds_toArray, List.set_cons_succ, List.set_cons_zero]
      apply lk_cell (.int .i64 (n : Int)) (r) (1) d1 HL.out rfl (by intro W hW; go_simp)
      simp only [Act.put, List.setIfInBounds_toArray, List.set_cons_succ, List.set_cons_zero]
      apply lk_pure _ rfl (by intro W; go_simp; rfl)
      simp only [Act.put, List.setIfInBounds_toArray, List.set_cons_succ, List.set_cons_zero]
      apply lk_pure _ rfl (by intro W; go_simp; rfl)
      simp only [Act.put, List.setIfInBounds_toArray, List.set_cons_succ, List.set_cons_zero]
      apply lk_pure _ rfl (by intro W; go_simp; rfl)
      simp only [Act.put, List.setIfInBounds_toArray, List.set_cons_succ, List.set_cons_zero]
      apply lk_cell (.string ⟨s.toArray⟩) (r) (0) d0 HL.out rfl (by intro W hW; go_simp)
      simp only [Act.put, List.setIfInBounds_toArray, List.set_cons_succ, List.set_cons_zero]
      apply lk_pure _ rfl (by intro W; go_simp; rfl)
      simp only [Act.put, List.setIfInBounds_toArray, List.set_cons_succ, List.set_cons_zero]
      apply lk_pure _ rfl (by intro W; go_simp; rfl)
      simp only [Act.put, List.setIfInBounds_toArray, List.set_cons_succ, List.set_cons_zero]
      apply lk_pure _ rfl (by intro W; go_simp; rfl)
      simp only [Act.put, List.setIfInBounds_toArray, List.set_cons_succ, List.set_cons_zero]
      apply lk_skip0 rfl
      simp only [Act.put, List.setIfInBounds_toArray, List.set_cons_succ, List.set_cons_zero]
      apply lk_skip0 rfl
      simp only [Act.put, List.setIfInBounds_toArray, List.set_cons_succ, List.set_cons_zero]
      apply lk_skip0 rfl
      simp only [Act.put, List.setIfInBounds_toArray, List.set_cons_succ, List.set_cons_zero]
      apply lk_skip0 rfl
      simp only [Act.put, List.setIfInBounds_toArray, List.set_cons_succ, List.set_cons_zero]
      apply lk_skip0 rfl
      simp only [Act.put, List.setIfInBounds_toArray, List.set_cons_succ, List.set_cons_zero]
      apply lk_skip0 rfl
      simp only [Act.put, List.setIfInBounds_toArray, List.set_cons_succ, List.set_cons_zero]
      apply lk_skip0 rfl
      simp only [Act.put, List.setIfInBounds_toArray, List.set_cons_succ, List.set_cons_zero]
      apply lk_skip0 rfl
      simp only [Act.put, List.setIfInBounds_toArray, List.set_cons_succ, List.set_cons_zero]
      apply lk_skip0 rfl
      simp only [Act.put, List.setIfInBounds_toArray, List.set_cons_succ, List.set_cons_zero]
      apply lk_skip0 rfl
      simp only [Act.put, List.setIfInBounds_toArray, List.set_cons_succ, List.set_cons_zero]
      apply lk_skip0 rfl
      simp only [Act.put, List.setIfInBounds_toArray, List.set_cons_succ, List.set_cons_zero]
      apply lk_pure _ rfl (by intro W; go_simp; rfl)
      simp only [Act.put, List.setIfInBounds_toArray, List.set_cons_succ, List.set_cons_zero]
      refine lk_nil (Fs := []) ?_
      intro w7 hb7 hz
      have HK2 := Lib.hid (And.intro (HK.out.1.later hb7) (HK.out.2.1.thenB hb7))
      have d0' := HK2.out.1.blk.cell (k := 0) rfl
      have d1' := HK2.out.1.blk.cell (k := 1) rfl
      have HL7 := Lib.hid HK2.out.1.lt
      clear d0 d1 hb7 hz
      go_upto_region 3 with fail
      apply wp_region_lk (by kernel_rfl) (by kernel_rfl)
      apply lk_pure _ rfl (by intro W; go_simp; rfl)
      simp only [Act.put, List.setIfInBounds_toArray, List.set_cons_succ, List.set_cons_zero]
      apply lk_pure _ rfl (by intro W; go_simp; rfl)
      simp only [Act.put, List.setIfInBounds_toArray, List.set_cons_succ, List.set_cons_zero]
      apply lk_pure _ rfl (by intro W; go_simp; rfl)
      simp only [Act.put, List.setIfInBounds_toArray, List.set_cons_succ, List.set_cons_zero]
      apply lk_cell (.int .i64 (n : Int)) (r) (1) d1' HL7.out rfl (by intro W hW; go_simp)
      simp only [Act.put, List.setIfInBounds_toArray, List.set_cons_succ, List.set_cons_zero]
      apply lk_pure _ rfl (by intro W; go_simp; rfl)
      simp only [Act.put, List.setIfInBounds_toArray, List.set_cons_succ, List.set_cons_zero]
      apply lk_pure _ rfl (by intro W; go_simp; rfl)
      simp only [Act.put, List.setIfInBounds_toArray, List.set_cons_succ, List.set_cons_zero]
      apply lk_pure _ rfl (by intro W; go_simp; rfl)
      simp only [Act.put, List.setIfInBounds_toArray, List.set_cons_succ, List.set_cons_zero]
      apply lk_cell (.string ⟨s.toArray⟩) (r) (0) d0' HL7.out rfl (by intro W hW; go_simp)
      simp only [Act.put, List.setIfInBounds_toArray, List.set_cons_succ, List.set_cons_zero]
      apply lk_pure _ rfl (by intro W; go_simp; rfl)
      simp only [Act.put, List.setIfInBounds_toArray, List.set_cons_succ, List.set_cons_zero]
      apply lk_pure _ rfl (by intro W; go_simp; rfl)
      simp only [Act.put, List.setIfInBounds_toArray, List.set_cons_succ, List.set_cons_zero]
      refine lk_nil (Fs := []) ?_
      intro w8 hb8 hz
      have HK3 := Lib.hid (And.intro (HK2.out.1.later hb8) (HK2.out.2.thenB hb8))
      clear hb8 hz HK2
      go_wp2_with fail
      go_ret
      exact ⟨n, by rw [HSK.out]; rfl, by have h := HK.out.2.2.1; rw [HSK.out] at h ⊢; rw [h]; rfl, HK.out.2.2.2, HK3.out.1, HK3.out.2⟩
end Go.Proofs.YtajkgcmopmpihaaGreatDoor
namespace Go.Proofs.YtajkgcmopmpihaaGreatDoor
open Go.RowKit
set_option linter.unusedVariables false
section
variable {P : Program} {ops : Array Oper} {l : List Oper} {md : Region.Mode} {Q : Exit → Act → World → Prop} {fuel : Nat} {listed : Array Bool} {a : Act} {w : World} {o : Oper}
theorem wp_region_wa {id : Nat} (hm : P.follows .mixedOrders = true) (n : Nat) (hn : l.length = n) (L : Array Bool) (hL : Array.replicate n false = L)
    (h : ∀ W, Below w.heap.size w W → wpAny P .any l.toArray Q n L a W) : (Code.region id l.toArray true).wp P Q a w := by
  subst hn hL
  exact wp_region_any hm (h _ ((Below.refl w.heap.size w).drewN 1))
theorem wa_pure (i : Nat) (x : Value) (hi : l[i]? = some o) (hs : Region.noSelect l.toArray = true) (hf : Region.free md l.toArray listed i = true) (hr : (Region.ready md l.toArray listed).contains i = true)
    (hQ : ∀ c a' w, Q (.panic c) (a'.put o.dst x) w → Q (.panic c) a' w) (hw : Region.wanted o (yielded l.toArray a.tmps) = true) (h1 : ∀ W, (execOp a.eval o).run P W = .ok (.value x) W)
    (h2 : wpAny P md l.toArray Q fuel (listed.setIfInBounds i true) (a.put o.dst x) w) : wpAny P md l.toArray Q (fuel + 1) listed a w :=
  wpAny_take (by simpa using hi) hs hf hr hQ (.inl ⟨hw, h1⟩) h2
theorem wpOp_of (i : Nat) {K : Act → World → Prop} (hi : l[i]? = some o) (hw : Region.wanted o (yielded l.toArray a.tmps) = true) (h : o.wp P a w K Q) : wpOp P l.toArray Q i K a w := by
  have hi2 : l.toArray[i]? = some o := by simpa using hi
  unfold wpOp; simp only [hi2, hw, if_true]; exact .inl h
theorem wa_op (i : Nat) (hr : Region.ready md l.toArray listed = [i]) (hi : l[i]? = some o) (hw : Region.wanted o (yielded l.toArray a.tmps) = true)
    (h : o.wp P a w (wpAny P md l.toArray Q fuel (listed.setIfInBounds i true)) Q) : wpAny P md l.toArray Q (fuel + 1) listed a w :=
  wpAny_all hr (by simp) (fun k hk => by
    rw [List.mem_singleton.1 hk]
    exact wpOp_of i hi hw h)
theorem wa_two (i j : Nat) {o2 : Oper} (hr : Region.ready md l.toArray listed = [i, j]) (hi : l[i]? = some o) (hj : l[j]? = some o2) (hw : Region.wanted o (yielded l.toArray a.tmps) = true) (hw2 : Region.wanted o2 (yielded l.toArray a.tmps) = true)
    (h : o.wp P a w (wpAny P md l.toArray Q fuel (listed.setIfInBounds i true)) Q) (h2 : o2.wp P a w (wpAny P md l.toArray Q fuel (listed.setIfInBounds j true)) Q) : wpAny P md l.toArray Q (fuel + 1) listed a w :=
  wpAny_all hr (by simp) (fun k hk => by
    rcases List.mem_cons.1 hk with rfl | hk
    · exact wpOp_of _ hi hw h
    · rw [List.mem_singleton.1 hk]; exact wpOp_of _ hj hw2 h2)
theorem wp_call {K : Act → World → Prop} {R : Ending → World → Prop} (f : FuncId) (args : Array Value) (he : (execOp a.eval o).run P w = .ok (.enter f args) w) (hc : Calls P f args w R)
    (hR : ∀ e w', R e w' → match e with | .returned v => K (a.put o.dst v) w' | .panicked ch => Q (.panic ch) a w' | .outgrown => LetsOut Q) : o.wp P a w K Q := by
  unfold Oper.wp
  rw [he]
  refine hc.mono fun e w' h => ?_
  have := hR e w' h
  cases e <;> exact this
theorem wa_call {R : Ending → World → Prop} (i : Nat) (f : FuncId) (args : Array Value) (hr : Region.ready md l.toArray listed = [i]) (hi : l[i]? = some o) (hw : Region.wanted o (yielded l.toArray a.tmps) = true)
    (he : (execOp a.eval o).run P w = .ok (.enter f args) w) (hc : Calls P f args w R)
    (hR : ∀ e w', R e w' → match e with | .returned v => wpAny P md l.toArray Q fuel (listed.setIfInBounds i true) (a.put o.dst v) w' | .panicked ch => Q (.panic ch) a w' | .outgrown => LetsOut Q) : wpAny P md l.toArray Q (fuel + 1) listed a w :=
  wa_op i hr hi hw (wp_call f args he hc hR)
theorem wa_lk (k : Nat) {rest : List Oper} {Fs : List Lft} (hl : l.drop k = rest) (hn : rest.length = fuel) (hs : Region.noSelect l.toArray = true) (hB : Region.lexFrom md l.toArray fuel k listed = true)
    (h : wpLk P l.toArray w (fun Z a' => ∀ w', Below w.heap.size w w' → Z w' → Q .normal a' w') rest Fs (fun _ => True) a) : wpAny P md l.toArray Q fuel listed a w := by
  subst hn hl
  have H := wpAnyLk_lex (P := P) (w0 := w) (md := md) (F := fun i => Fs.getD (i - k) (Lft.bare fun _ => False)) (Q := fun a' w' => Q .normal a' w') hs (l.drop k) Fs k listed (fun _ => True) a (fun j => by simp [List.getElem?_drop]) (fun j R hj => by simp [hj]) hB h
  exact wpAny_of_lk (Q := fun a' w' => Q .normal a' w') (fun _ _ h => h) _ _ (fun _ => True) _ w (fun _ _ _ _ => trivial) (Below.refl _ _) trivial H
theorem wa_done (hr : Region.ready md l.toArray listed = []) (h : Q .normal a w) : wpAny P md l.toArray Q fuel listed a w := wpAny_done hr h _
end
end Go.Proofs.YtajkgcmopmpihaaGreatDoor
namespace Go.Proofs.YtajkgcmopmpihaaGreatDoor
open Go.ChangeShapes Go.WideShapes Go.ChangeAt Go.RowKit Go.IntWalk
set_option linter.unusedVariables false
set_option maxRecDepth 100000
def PsPost (base : Nat) (w : World) (r : Nat) (s : List UInt8) (at_ : Nat) (c : UInt8) (U : Value) (fs : List Frm) (e : Ending) (w' : World) : Prop :=
  ∃ (b : Bool) (at' : Nat), e = .returned (.bool b) ∧ RSt base w' r s at' U fs ∧ Chg (· = r) w w' ∧ at_ ≤ at' ∧
    (b = true → skipB (s.drop at_) = c :: s.drop at' ∧ at_ < at') ∧ (b = false → s.drop at' = skipB (s.drop at_) ∧ (s.drop at').head? ≠ some c)
section
variable {base : Nat} {w w' : World} {r : Nat} {s : List UInt8} {at_ at' : Nat} {c : UInt8} {U : Value} {fs : List Frm}
theorem PsPost.no (h1 : RSt base w' r s at' U fs) (h2 : Chg (· = r) w w') (h3 : at_ ≤ at') (h4 : s.drop at' = skipB (s.drop at_)) (h5 : (s.drop at').head? ≠ some c) : PsPost base w r s at_ c U fs (.returned (.bool false)) w' :=
  ⟨false, at', rfl, h1, h2, h3, fun h => absurd h (by decide), fun _ => ⟨h4, h5⟩⟩
theorem PsPost.yes (h1 : RSt base w' r s at' U fs) (h2 : Chg (· = r) w w') (h4 : skipB (s.drop at_) = c :: s.drop at') (h5 : at_ < at') : PsPost base w r s at_ c U fs (.returned (.bool true)) w' :=
  ⟨true, at', rfl, h1, h2, Nat.le_of_lt h5, fun _ => ⟨h4, h5⟩, fun h => absurd h (by decide)⟩
end
set_option maxHeartbeats 4000000 in
theorem pass_calls (base : Nat) (w : World) (r : Nat) (s : List UInt8) (at_ : Nat) (c : UInt8) (U : Value) (fs : List Frm) (h : RSt base w r s at_ U fs) : Calls Tryz.prog 57 #[.pointer (some ⟨r, 0, none⟩), .int .u8 (c.toNat : Int)] w (PsPost base w r s at_ c U fs) := by
  have H := Lib.hid h
  obtain ⟨n, hn⟩ : ∃ n, s.length = n := ⟨_, rfl⟩
  have hsz : (⟨s.toArray⟩ : ByteArray).size = n := hn
  have HN := Lib.hid hn
  clear h hn
  go_enter Tryz.func57, Tryz.ntmps57
  go_upto_region 1 with fail
  refine wp_region_wa (by kernel_rfl) 16 rfl #[false, false, false, false, false, false, false, false, false, false, false, false, false, false, false, false] (by rfl) ?_
  intro WR hbR
  refine wa_pure 0 (.pointer (some ⟨r, 0, none⟩)) rfl (by kernel_rfl) (by kernel_rfl) (by kernel_rfl) (fun _ _ _ h => h) rfl (by intro W; go_simp) ?_
  simp only [Act.put, List.setIfInBounds_toArray, List.set_cons_succ, List.set_cons_zero]
  refine wa_pure 2 (.int .u8 (c.toNat : Int)) rfl (by kernel_rfl) (by kernel_rfl) (by kernel_rfl) (fun _ _ _ h => h) rfl (by intro W; go_simp) ?_
  simp only [Act.put, List.setIfInBounds_toArray, List.set_cons_succ, List.set_cons_zero]
  refine wa_call 1 23 #[.pointer (some ⟨r, 0, none⟩)] (by kernel_rfl) rfl rfl (by go_simp) (next_calls base WR r s at_ U fs (H.out.later hbR)) ?_
  rintro e w1 ⟨k, rfl, hk1, hk2, hk3, hk4⟩
  simp only [Act.put, List.setIfInBounds_toArray, List.set_cons_succ, List.set_cons_zero]
  have HK := Lib.hid (And.intro hk1 (And.intro hk2 (And.intro hk3 ((Chg.of hbR : Chg (· = r) w WR).then_ hk4))))
  obtain ⟨z, hz⟩ : ∃ z, headU (s.drop k) = z := ⟨_, rfl⟩
  have HZ := Lib.hid hz
  rw [hz]
  have d0 := hk3.blk.cell (k := 0) rfl
  have d1 := hk3.blk.cell (k := 1) rfl
  have HL := Lib.hid hk3.lt
  clear hk1 hk2 hk3 hk4 hz hbR
  by_cases hzc : z = c.toNat
  · have hne : ((z : Int) != (c.toNat : Int)) = false := by rw [hzc]; simp
    by_cases hkn : k = n
    · have hkb : ((k : Int) == (n : Int)) = true := by rw [hkn]; simp
      apply wa_lk 3 rfl rfl (by kernel_rfl) (by kernel_rfl)
      simp only [List.drop_succ_cons, List.drop_zero]
      apply lk_pure _ rfl (by intro W; go_simp; rfl)
      simp only [Act.put, List.setIfInBounds_toArray, List.set_cons_succ, List.set_cons_zero]
      apply lk_pure _ rfl (by intro W; go_simp; rfl)
      simp only [Act.put, List.setIfInBounds_toArray, List.set_cons_succ, List.set_cons_zero]
      apply lk_pure _ rfl (by intro W; go_simp; rfl)
      simp only [Act.put, List.setIfInBounds_toArray, List.set_cons_succ, List.set_cons_zero]
      apply lk_pure _ rfl (by intro W; go_simp; rfl)
      simp only [Act.put, List.setIfInBounds_toArray, List.set_cons_succ, List.set_cons_zero]
      apply lk_pure _ rfl (by intro W; go_simp; rfl)
      simp only [Act.put, List.setIfInBounds_toArray, List.set_cons_succ, List.set_cons_zero]
      apply lk_cell (.int .i64 (k : Int)) (r) (1) d1 HL.out rfl (by intro W hW; go_simp)
      simp only [Act.put, List.setIfInBounds_toArray, List.set_cons_succ, List.set_cons_zero]
      apply lk_pure _ rfl (by intro W; go_simp; rfl)
      simp only [Act.put, List.setIfInBounds_toArray, List.set_cons_succ, List.set_cons_zero]
      apply lk_pure _ rfl (by intro W; go_simp; rfl)
      simp only [Act.put, List.setIfInBounds_toArray, List.set_cons_succ, List.set_cons_zero]
      apply lk_pure _ rfl (by intro W; go_simp; rfl)
      simp only [Act.put, List.setIfInBounds_toArray, List.set_cons_succ, List.set_cons_zero]
      apply lk_cell (.string ⟨s.toArray⟩) (r) (0) d0 HL.out rfl (by intro W hW; go_simp)
      simp only [Act.put, List.setIfInBounds_toArray, List.set_cons_succ, List.set_cons_zero]
      apply lk_pure _ rfl (by intro W; go_simp; rfl)
      simp only [Act.put, List.setIfInBounds_toArray, List.set_cons_succ, List.set_cons_zero]
      apply lk_pure _ rfl (by intro W; go_simp; rfl)
      simp only [Act.put, List.setIfInBounds_toArray, List.set_cons_succ, List.set_cons_zero]
      apply lk_pure _ rfl (by intro W; go_simp; rfl)
      simp only [Act.put, List.setIfInBounds_toArray, List.set_cons_succ, List.set_cons_zero]
      refine lk_nil (Fs := []) ?_
      intro w7 hb7 hz
      have H7 := Lib.hid (And.intro (HK.out.2.2.1.later hb7) (HK.out.2.2.2.thenB hb7))
      clear d0 d1 hb7 hz
      go_wp2_with fail
      go_ret
      have hnil : s.drop k = [] := List.drop_of_length_le (by rw [HN.out, hkn]; exact Nat.le_refl _)
      exact PsPost.no H7.out.1 H7.out.2 HK.out.2.1 HK.out.1 (by rw [hnil]; simp)
    · have hkb : ((k : Int) == (n : Int)) = false := by rw [beq_eq_false_iff_ne]; omega
      apply wa_lk 3 rfl rfl (by kernel_rfl) (by kernel_rfl)
      simp only [List.drop_succ_cons, List.drop_zero]
      apply lk_pure _ rfl (by intro W; go_simp; rfl)
      simp only [Act.put, List.setIfInBounds_toArray, List.set_cons_succ, List.set_cons_zero]
      apply lk_pure _ rfl (by intro W; go_simp; rfl)
      simp only [Act.put, List.setIfInBounds_toArray, List.set_cons_succ, List.set_cons_zero]
      apply lk_pure _ rfl (by intro W; go_simp; rfl)
      simp only [Act.put, List.setIfInBounds_toArray, List.set_cons_succ, List.set_cons_zero]
      apply lk_pure _ rfl (by intro W; go_simp; rfl)
      simp only [Act.put, List.setIfInBounds_toArray, List.set_cons_succ, List.set_cons_zero]
      apply lk_pure _ rfl (by intro W; go_simp; rfl)
      simp only [Act.put, List.setIfInBounds_toArray, List.set_cons_succ, List.set_cons_zero]
      apply lk_cell (.int .i64 (k : Int)) (r) (1) d1 HL.out rfl (by intro W hW; go_simp)
      simp only [Act.put, List.setIfInBounds_toArray, List.set_cons_succ, List.set_cons_zero]
      apply lk_pure _ rfl (by intro W; go_simp; rfl)
      simp only [Act.put, List.setIfInBounds_toArray, List.set_cons_succ, List.set_cons_zero]
      apply lk_pure _ rfl (by intro W; go_simp; rfl)
      simp only [Act.put, List.setIfInBounds_toArray, List.set_cons_succ, List.set_cons_zero]
      apply lk_pure _ rfl (by intro W; go_simp; rfl)
      simp only [Act.put, List.setIfInBounds_toArray, List.set_cons_succ, List.set_cons_zero]
      apply lk_cell (.string ⟨s.toArray⟩) (r) (0) d0 HL.out rfl (by intro W hW; go_simp)
      simp only [Act.put, List.setIfInBounds_toArray, List.set_cons_succ, List.set_cons_zero]
      apply lk_pure _ rfl (by intro W; go_simp; rfl)
      simp only [Act.put, List.setIfInBounds_toArray, List.set_cons_succ, List.set_cons_zero]
      apply lk_pure _ rfl (by intro W; go_simp; rfl)
      simp only [Act.put, List.setIfInBounds_toArray, List.set_cons_succ, List.set_cons_zero]
      apply lk_pure _ rfl (by intro W; go_simp; rfl)
      simp only [Act.put, List.setIfInBounds_toArray, List.set_cons_succ, List.set_cons_zero]
      refine lk_nil (Fs := []) ?_
      intro w7 hb7 hz
      have H7 := Lib.hid (And.intro (HK.out.2.2.1.later hb7) (HK.out.2.2.2.thenB hb7))
      have d1' := H7.out.1.blk.cell (k := 1) rfl
      have f1' := H7.out.1.blk.frozen 1
      have hk6 : k ≤ 65536 := Nat.le_trans HK.out.2.2.1.hat HK.out.2.2.1.hs
      have hlt : k < s.length := by have := HK.out.2.2.1.hat; rw [HN.out] at this ⊢; omega
      clear d0 d1 hb7 hz
      go_wp2_with fail
      go_ret
      have hb9 : Blk (w7.setCell ⟨r, 1, none⟩ (.int .i64 ((k : Int) + 1))) r 50 [.string ⟨s.toArray⟩, .int .i64 ((k + 1 : Nat) : Int), U] := H7.out.1.blk.set_ 1 (.int .i64 ((k : Int) + 1))
      have hd : s.drop k = c :: s.drop (k + 1) := by
        have h1 := HZ.out
        rw [List.drop_eq_getElem_cons hlt] at h1 ⊢
        rw [UInt8.toNat_inj.1 (h1.trans hzc)]
      exact PsPost.yes (H7.out.1.move (Chg.set1 (C := (· = r)) rfl _ _) hb9 (by omega) (by omega)) (H7.out.2.setCell (.inl rfl) _) (by rw [← HK.out.1]; exact hd) (by have := HK.out.2.1; omega)
  · have hne : ((z : Int) != (c.toNat : Int)) = true := by rw [bne_iff_ne]; omega
    apply wa_lk 3 rfl rfl (by kernel_rfl) (by kernel_rfl)
    simp only [List.drop_succ_cons, List.drop_zero]
    apply lk_pure _ rfl (by intro W; go_simp; rfl)
    simp only [Act.put, List.setIfInBounds_toArray, List.set_cons_succ, List.set_cons_zero]
    apply lk_pure _ rfl (by intro W; go_simp; rfl)
    simp only [Act.put, List.setIfInBounds_toArray, List.set_cons_succ, List.set_cons_zero]
    apply lk_skip0 rfl
    simp only [Act.put, List.setIfInBounds_toArray, List.set_cons_succ, List.set_cons_zero]
    apply lk_skip0 rfl
    simp only [Act.put, List.setIfInBounds_toArray, List.set_cons_succ, List.set_cons_zero]
    apply lk_skip0 rfl
    simp only [Act.put, List.setIfInBounds_toArray, List.set_cons_succ, List.set_cons_zero]
    apply lk_skip0 rfl
    simp only [Act.put, List.setIfInBounds_toArray, List.set_cons_succ, List.set_cons_zero]
    apply lk_skip0 rfl
    simp only [Act.put, List.setIfInBounds_toArray, List.set_cons_succ, List.set_cons_zero]
    apply lk_skip0 rfl
    simp only [Act.put, List.setIfInBounds_toArray, List.set_cons_succ, List.set_cons_zero]
    apply lk_skip0 rfl
    simp only [Act.put, List.setIfInBounds_toArray, List.set_cons_succ, List.set_cons_zero]
    apply lk_skip0 rfl
    simp only [Act.put, List.setIfInBounds_toArray, List.set_cons_succ, List.set_cons_zero]
    apply lk_skip0 rfl
    simp only [Act.put, List.setIfInBounds_toArray, List.set_cons_succ, List.set_cons_zero]
    apply lk_skip0 rfl
    simp only [Act.put, List.setIfInBounds_toArray, List.set_cons_succ, List.set_cons_zero]
    apply lk_pure _ rfl (by intro W; go_simp; rfl)
    simp only [Act.put, List.setIfInBounds_toArray, List.set_cons_succ, List.set_cons_zero]
    refine lk_nil (Fs := []) ?_
    intro w7 hb7 hz
    have H7 := Lib.hid (And.intro (HK.out.2.2.1.later hb7) (HK.out.2.2.2.thenB hb7))
    clear d0 d1 hb7 hz
    go_wp2_with fail
    go_ret
    exact PsPost.no H7.out.1 H7.out.2 HK.out.2.1 HK.out.1 (fun h => hzc (by
      have h1 := HZ.out
      cases hs : s.drop k with
      | nil => rw [hs] at h; cases h
      | cons d q => rw [hs] at h h1; injection h with h; rw [← h1, h]; rfl))
def MsPost (base : Nat) (w : World) (r : Nat) (s : List UInt8) (at_ : Nat) (c : UInt8) (U : Value) (fs : List Frm) (e : Ending) (w' : World) : Prop :=
  Chg (· = r) w w' ∧ ((∃ at', e = .returned (.tuple #[]) ∧ RSt base w' r s at' U fs ∧ skipB (s.drop at_) = c :: s.drop at' ∧ at_ < at') ∨ (e = .panicked (flt 4) ∧ (skipB (s.drop at_)).head? ≠ some c))
set_option maxHeartbeats 4000000 in
theorem must_calls (base : Nat) (w : World) (r : Nat) (s : List UInt8) (at_ : Nat) (c : UInt8) (U : Value) (fs : List Frm) (h : RSt base w r s at_ U fs) : Calls Tryz.prog 64 #[.pointer (some ⟨r, 0, none⟩), .int .u8 (c.toNat : Int)] w (MsPost base w r s at_ c U fs) := by
  have HC := Lib.hid (pass_calls base w r s at_ c U fs h)
  clear h
  go_enter Tryz.func64, Tryz.ntmps64
  go_wp2_with fail
  refine HC.out.mono ?_
  rintro e w1 ⟨b, k, rfl, h1, h2, h3, h4, h5⟩
  have HP := Lib.hid (And.intro h1 (And.intro h2 (And.intro h3 (And.intro h4 h5))))
  clear h1 h2 h3 h4 h5 HC
  cases b with
  | true =>
    go_wp2_with fail
    go_end0
    exact ⟨HP.out.2.1, .inl ⟨k, rfl, HP.out.1, HP.out.2.2.2.1 (by first | rfl | trivial)⟩⟩
  | false =>
    go_wp2_with fail
    refine (giveUp_calls _ _).mono ?_
    rintro e w2 ⟨rfl, rfl⟩
    go_wp2_with fail
    have h5 := HP.out.2.2.2.2 (by first | rfl | trivial)
    exact ⟨rfl, HP.out.2.1, .inr ⟨rfl, by rw [← h5.1]; exact h5.2⟩⟩
end Go.Proofs.YtajkgcmopmpihaaGreatDoor
