/- Texts put together: JpO. -/
import Derived.Test.YtajkgcmopmpihaaGreatDoorZe0229a17e6
import Derived.Lib.IndexAny
import Derived.Lib.AtoiErrMem
namespace Go.Proofs.YtajkgcmopmpihaaGreatDoor
open Go.ChangeShapes Go.WideShapes Go.ChangeAt Go.RowKit Go.IntWalk
set_option linter.unusedVariables false
set_option maxRecDepth 100000

def ni (c : UInt8) : Int := Lib.indexByte [48, 49, 50, 51, 52, 53, 54, 55, 56, 57, 43, 45, 46, 101, 69] c
theorem ni_iff (c : UInt8) : (0 ≤ ni c) ↔ numB c = true := by
  unfold ni
  have : [48, 49, 50, 51, 52, 53, 54, 55, 56, 57, 43, 45, 46, 101, 69].contains c = numB c := by
    unfold numB
    rw [← dig_mem]
    rw [Bool.eq_iff_iff]
    simp only [List.contains_eq_mem, List.mem_cons, List.not_mem_nil, or_false, decide_eq_true_eq, Bool.or_eq_true, beq_iff_eq]
    constructor
    · intro h
      rcases h with h | h | h | h | h | h | h | h | h | h | h | h | h | h | h <;> simp [h]
    · intro h
      rcases h with ((((h | h) | h) | h) | h) | h
      · rcases h with h | h | h | h | h | h | h | h | h | h <;> simp [h]
      · simp [h]
      · simp [h]
      · simp [h]
      · simp [h]
      · simp [h]
  rw [← this, Lib.contains_iff_indexByte, decide_eq_true_eq]
theorem ni_calls (c : UInt8) (w : World) : Calls Tryz.prog 37 #[.string ⟨#[48, 49, 50, 51, 52, 53, 54, 55, 56, 57, 43, 45, 46, 101, 69]⟩, .int .u8 (c.toNat : Int)] w fun e w' => e = .returned (.int .i64 (ni c)) ∧ w' = w := by
  refine (Tryz.strings_IndexByte ⟨#[48, 49, 50, 51, 52, 53, 54, 55, 56, 57, 43, 45, 46, 101, 69]⟩ c.toNat w).mono ?_
  rintro e w' ⟨rfl, rfl⟩
  refine ⟨?_, rfl⟩
  simp [ni]
/-- What a number at the place k of s has shown so far. -/
def NmIs (s : List UInt8) (at_ k : Nat) : Prop := at_ ≤ k ∧ (s.drop at_).dropWhile numB = (s.drop k).dropWhile numB ∧ (s.drop at_).takeWhile numB = (s.take k).drop at_ ++ (s.drop k).takeWhile numB
theorem NmIs.start (s : List UInt8) (at_ : Nat) : NmIs s at_ at_ := by
  refine ⟨Nat.le_refl _, rfl, ?_⟩
  rw [show (s.take at_).drop at_ = [] from List.drop_of_length_le (by rw [List.length_take]; omega)]; rfl
theorem NmIs.step {s : List UInt8} {at_ k : Nat} {c : UInt8} (h : NmIs s at_ k) (hd : s.drop k = c :: s.drop (k + 1)) (hc : numB c = true) : NmIs s at_ (k + 1) := by
  obtain ⟨h1, h2, h3⟩ := h
  have hk : k < s.length := by
    have := congrArg List.length hd
    rw [List.length_drop, List.length_cons, List.length_drop] at this; omega
  have hck : s[k] = c := by
    rw [List.drop_eq_getElem_cons hk] at hd
    injection hd
  refine ⟨by omega, ?_, ?_⟩
  · rw [h2, hd, List.dropWhile_cons, if_pos hc]
  · rw [h3, hd, List.takeWhile_cons, if_pos hc, List.take_succ_eq_append_getElem hk, List.drop_append_of_le_length (by rw [List.length_take]; omega), hck, List.append_assoc]; rfl
theorem NmIs.ends {s : List UInt8} {at_ k : Nat} (h : NmIs s at_ k) (hd : s.drop k = [] ∨ ∃ c, s.drop k = c :: s.drop (k + 1) ∧ numB c = false) : (s.drop at_).takeWhile numB = (s.take k).drop at_ ∧ (s.drop at_).dropWhile numB = s.drop k := by
  obtain ⟨h1, h2, h3⟩ := h
  rcases hd with hd | ⟨c, hd, hc⟩
  · rw [h2, h3, hd]; simp
  · rw [h2, h3, hd]; simp [hc]
/-- What stands in strconv's two variables. -/
def IfV (v : Value) : Prop := v = .nilIface ∨ ∃ te pe, v = .iface te pe
def ErrC (w : World) : Prop := 2 < w.heap.size ∧ (∃ v, w.cell? ⟨1, 0, none⟩ = some v ∧ IfV v) ∧ ∃ v, w.cell? ⟨2, 0, none⟩ = some v ∧ IfV v
theorem ErrC.chg {C : Nat → Prop} {w w' : World} (h : ErrC w) (hc : Chg C w w') (h1 : ¬ C 1) (h2 : ¬ C 2) : ErrC w' := by
  obtain ⟨h0, ⟨v, a1, a2⟩, v2, b1, b2⟩ := h
  exact ⟨Nat.lt_of_lt_of_le h0 hc.size, ⟨v, by rw [hc.cell (by omega) h1]; exact a1, a2⟩, v2, by rw [hc.cell h0 h2]; exact b1, b2⟩
/-- Atoi, whatever the word. -/
def AtPost (w0 : World) (l : List UInt8) (e : Ending) (w' : World) : Prop :=
  Below w0.heap.size w0 w' ∧ ((∃ v, Lib.atoiAll l = .ok v ∧ e = .returned (.tuple #[.int .i64 v, .nilIface])) ∨
    ∃ v N, (∀ z, Lib.atoiAll l ≠ .ok z) ∧ e = .returned (.tuple #[.int .i64 v, .iface 137 (.pointer (some ⟨N, 0, none⟩))]))
theorem atoi_calls (l : List UInt8) (hl : l.length ≤ 65536) (w : World) (hE : ErrC w) : Calls Tryz.prog 72 #[.string ⟨l.toArray⟩] w (AtPost w l) := by
  obtain ⟨h0, ⟨v1, a1, a2⟩, v2, b1, b2⟩ := hE
  have hs : (⟨l.toArray⟩ : ByteArray).size = l.length := rfl
  cases hx : Lib.atoiAll l with
  | ok v =>
    refine (Tryz.strconv_Atoi_ok ⟨l.toArray⟩ (by rw [hs]; omega) v hx w).mono ?_
    rintro e w' ⟨rfl, h⟩
    refine ⟨?_, .inl ⟨v, hx, rfl⟩⟩
    rcases h with rfl | ⟨t, rfl⟩
    · exact Below.refl _ _
    · exact Lib.bytesWorld_below _ _ _
  | range =>
    refine (Tryz.strconv_Atoi_range ⟨l.toArray⟩ (by rw [hs]; omega) hx v2 w b1 b2).mono ?_
    rintro e w' ⟨N, rfl, _, _, h⟩
    exact ⟨h, .inr ⟨_, N, fun z hz => (by rw [hx] at hz; cases hz), rfl⟩⟩
  | _ =>
    refine (Tryz.strconv_Atoi_syntax ⟨l.toArray⟩ (by rw [hs]; omega) hx v1 w a1 a2).mono ?_
    rintro e w' ⟨N, rfl, _, _, h⟩
    exact ⟨h, .inr ⟨_, N, fun z hz => (by rw [hx] at hz; cases hz), rfl⟩⟩
def NbPost (base : Nat) (w : World) (r : Nat) (s : List UInt8) (at_ : Nat) (U : Value) (fs : List Frm) (e : Ending) (w' : World) : Prop :=
  Chg (· = r) w w' ∧ ((∃ c, numP (s.drop at_) = .error c ∧ e = .panicked (flt c)) ∨ ∃ n at', numP (s.drop at_) = .ok (⟨2, false, n, [], .nil, .nil⟩, s.drop at') ∧ e = .returned (.int .i64 n) ∧ RSt base w' r s at' U fs)
section
variable {r M : List UInt8} {v : Int}
theorem num_eq (hT : r.takeWhile numB = M) : numP r = if isNumF M = false then .error 4 else (match Lib.atoiAll M with
    | .ok n => if M = [45, 48] ∨ n < -9007199254740991 ∨ 9007199254740991 < n then .error 7 else .ok (⟨2, false, n, [], .nil, .nil⟩, r.dropWhile numB)
    | _ => .error 7) := by subst hT; unfold numP; rw [whole_fst]; rfl
theorem num_no (hT : r.takeWhile numB = M) (h : isNumF M = false) : numP r = .error 4 := by rw [num_eq hT, if_pos h]
theorem num_bad (hT : r.takeWhile numB = M) (h : isNumF M = true) (hv : ∀ z, Lib.atoiAll M ≠ .ok z) : numP r = .error 7 := by
  rw [num_eq hT, if_neg (by rw [h]; decide)]
  split
  · rename_i n hn; exact absurd hn (hv n)
  · rfl
theorem num_out (hT : r.takeWhile numB = M) (h : isNumF M = true) (hv : Lib.atoiAll M = .ok v) (ho : M = [45, 48] ∨ v < -9007199254740991 ∨ 9007199254740991 < v) : numP r = .error 7 := by
  rw [num_eq hT, if_neg (by rw [h]; decide), hv]; dsimp only; rw [if_pos ho]
theorem num_in (hT : r.takeWhile numB = M) (h : isNumF M = true) (hv : Lib.atoiAll M = .ok v) (h1 : ¬ M = [45, 48]) (h2 : ¬ v < -9007199254740991) (h3 : ¬ 9007199254740991 < v) : numP r = .ok (⟨2, false, v, [], .nil, .nil⟩, r.dropWhile numB) := by
  rw [num_eq hT, if_neg (by rw [h]; decide), hv]; dsimp only; rw [if_neg (by rintro (h | h | h) <;> contradiction)]
end
set_option maxHeartbeats 4000000 in
theorem jnumber_calls (base : Nat) (w : World) (r : Nat) (s : List UInt8) (at_ : Nat) (U : Value) (fs : List Frm) (h : RSt base w r s at_ U fs) (hE : ErrC w) (hr3 : 2 < r) : Calls Tryz.prog 62 #[.pointer (some ⟨r, 0, none⟩)] w (NbPost base w r s at_ U fs) := by
  have H := Lib.hid h
  have HERR := Lib.hid (And.intro hE hr3)
  obtain ⟨n, hn⟩ : ∃ n, s.length = n := ⟨_, rfl⟩
  have hsz : (⟨s.toArray⟩ : ByteArray).size = n := hn
  have HN := Lib.hid hn
  have hn6 : n ≤ 65536 := by rw [← hn]; exact h.hs
  have g1 := h.blk.cell (k := 1) rfl
  have HL0 := Lib.hid h.lt
  clear h hn hE hr3
  go_enter Tryz.func62, Tryz.ntmps62
  go_wp2_with fail
  clear g1 HL0
  go_loopw [] (fun wr => ∃ k : Nat, k ≤ n ∧ Hid (RSt base wr r s k U fs ∧ Chg (· = r) w wr ∧ NmIs s at_ k)) (fun wr => n - cellN wr ⟨r, 1, none⟩)
  case atStart => exact ⟨at_, by rw [← HN.out]; exact H.out.hat, Lib.hid ⟨H.out, Chg.refl _ _, NmIs.start _ _⟩⟩
  case round =>
    obtain ⟨k, hk, HK⟩ := hrel
    have d0 := HK.out.1.blk.cell (k := 0) rfl
    have d1 := HK.out.1.blk.cell (k := 1) rfl
    have HL := Lib.hid HK.out.1.lt
    by_cases hp : k < n
    · have hp2 : k < s.length := by rw [HN.out]; exact hp
      obtain ⟨c, hc⟩ : ∃ c, s[k] = c := ⟨_, rfl⟩
      have HD := Lib.hid (show s.drop k = c :: s.drop (k + 1) by rw [List.drop_eq_getElem_cons hp2, hc])
      obtain ⟨q, hq⟩ : ∃ q, ni c = q := ⟨_, rfl⟩
      have HB := Lib.hid (ni_iff c)
      rw [hq] at HB
      have HC := Lib.hid (ni_calls c)
      rw [hq] at HC
      clear hq
      have hk2 : (k : Int) < (n : Int) := by omega
      by_cases hbl : numB c = true
      · have hq1 : (0 : Int) ≤ q := HB.out.2 hbl
        have HSK := Lib.hid (HK.out.2.2.step HD.out hbl)
        clear hbl HB
        go_upto_region 2 with fail
        apply wp_region_lk (by kernel_rfl) (by kernel_rfl)
        apply lk_pure _ rfl (by intro W; go_simp; rfl)
        simp only [Act.put, List.setIfInBounds_toArray, List.set_cons_succ, List.set_cons_zero]
        apply lk_pure _ rfl (by intro W; go_simp; rfl)
        simp only [Act.put, List.setIfInBounds_toArray, List.set_cons_succ, List.set_cons_zero]
        apply lk_pure _ rfl (by intro W; go_simp; rfl)
        simp only [Act.put, List.setIfInBounds_toArray, List.set_cons_succ, List.set_cons_zero]
        apply lk_cell (.int .i64 (k : Int)) (r) (1) d1 HL.out rfl (by intro W hW; go_simp)
        simp only [Act.put, List.setIfInBounds_toArray, List.set_cons_succ, List.set_cons_zero]
        apply lk_pure _ rfl (by intro W; go_simp; rfl)
        simp only [Act.put, List.setIfInBounds_toArray, List.set_cons_succ, List.set_cons_zero]
        apply lk_pure _ rfl (by intro W; go_simp; rfl)
        simp only [Act.put, List.setIfInBounds_toArray, List.set_cons_succ, List.set_cons_zero]
        apply lk_pure _ rfl (by intro W; go_simp; rfl)
        simp only [Act.put, List.setIfInBounds_toArray, List.set_cons_succ, List.set_cons_zero]
        apply lk_cell (.string ⟨s.toArray⟩) (r) (0) d0 HL.out rfl (by intro W hW; go_simp)
        simp only [Act.put, List.setIfInBounds_toArray, List.set_cons_succ, List.set_cons_zero]
        apply lk_pure _ rfl (by intro W; go_simp; rfl)
        simp only [Act.put, List.setIfInBounds_toArray, List.set_cons_succ, List.set_cons_zero]
        apply lk_pure _ rfl (by intro W; go_simp; rfl)
        simp only [Act.put, List.setIfInBounds_toArray, List.set_cons_succ, List.set_cons_zero]
        apply lk_pure _ rfl (by intro W; go_simp; rfl)
        simp only [Act.put, List.setIfInBounds_toArray, List.set_cons_succ, List.set_cons_zero]
        apply lk_pure _ rfl (by intro W; go_simp; rfl)
        simp only [Act.put, List.setIfInBounds_toArray, List.set_cons_succ, List.set_cons_zero]
        apply lk_pure _ rfl (by intro W; go_simp; rfl)
        simp only [Act.put, List.setIfInBounds_toArray, List.set_cons_succ, List.set_cons_zero]
        apply lk_pure _ rfl (by intro W; go_simp; rfl)
        simp only [Act.put, List.setIfInBounds_toArray, List.set_cons_succ, List.set_cons_zero]
        apply lk_cell (.string ⟨s.toArray⟩) (r) (0) d0 HL.out rfl (by intro W hW; go_simp)
        simp only [Act.put, List.setIfInBounds_toArray, List.set_cons_succ, List.set_cons_zero]
        apply lk_pure _ rfl (by intro W; go_simp; rfl)
        simp only [Act.put, List.setIfInBounds_toArray, List.set_cons_succ, List.set_cons_zero]
        apply lk_pure _ rfl (by intro W; go_simp; rfl)
        simp only [Act.put, List.setIfInBounds_toArray, List.set_cons_succ, List.set_cons_zero]
        apply lk_pure _ rfl (by intro W; go_simp; rfl)
        simp only [Act.put, List.setIfInBounds_toArray, List.set_cons_succ, List.set_cons_zero]
        apply lk_cell (.int .i64 (k : Int)) (r) (1) d1 HL.out rfl (by intro W hW; go_simp)
        simp only [Act.put, List.setIfInBounds_toArray, List.set_cons_succ, List.set_cons_zero]
        apply lk_pure _ rfl (by intro W; go_simp; rfl)
        simp only [Act.put, List.setIfInBounds_toArray, List.set_cons_succ, List.set_cons_zero]
        apply lk_call (Lft.bare (· = .int .i64 q)) 37 #[.string ⟨#[48, 49, 50, 51, 52, 53, 54, 55, 56, 57, 43, 45, 46, 101, 69]⟩, .int .u8 (c.toNat : Int)] rfl (by intro W; first | (go_simp; done) | (go_simp; exact ⟨rfl, rfl⟩)) (fun W hW => (HC.out W).mono fun en W' ⟨h1, h2⟩ => ⟨_, h1, rfl, trivial, by subst h2; exact Below.refl _ _⟩)
        rintro _ rfl
        simp only [Act.put, List.setIfInBounds_toArray, List.set_cons_succ, List.set_cons_zero]
        apply lk_pure _ rfl (by intro W; go_simp; rfl)
        simp only [Act.put, List.setIfInBounds_toArray, List.set_cons_succ, List.set_cons_zero]
        apply lk_pure _ rfl (by intro W; go_simp; rfl)
        simp only [Act.put, List.setIfInBounds_toArray, List.set_cons_succ, List.set_cons_zero]
        refine lk_nil (Fs := []) ?_
        intro w7 hb7 hz
        have HK2 := Lib.hid (And.intro (HK.out.1.later hb7) (HK.out.2.1.thenB hb7))
        have d1' := HK2.out.1.blk.cell (k := 1) rfl
        have f1' := HK2.out.1.blk.frozen 1
        clear d0 d1 hb7 hz
        go_wp2_with fail
        have hb9 : Blk (w7.setCell ⟨r, 1, none⟩ (.int .i64 ((k : Int) + 1))) r 50 [.string ⟨s.toArray⟩, .int .i64 ((k + 1 : Nat) : Int), U] := HK2.out.1.blk.set_ 1 (.int .i64 ((k : Int) + 1))
        refine ⟨⟨k + 1, by omega, Lib.hid ⟨HK2.out.1.move (Chg.set1 (C := (· = r)) rfl _ _) hb9 (by omega) (by rw [HN.out]; omega), HK2.out.2.setCell (.inl rfl) _, HSK.out⟩⟩, ?_⟩
        have hcn : cellN (w7.setCell ⟨r, 1, none⟩ (.int .i64 ((k : Int) + 1))) ⟨r, 1, none⟩ = k + 1 := by unfold cellN; rw [hb9.cell (k := 1) rfl]; rfl
        have hcr : cellN wr ⟨r, 1, none⟩ = k := by unfold cellN; rw [HK.out.1.blk.cell (k := 1) rfl]; rfl
        rw [hcn, hcr]; omega
      · have hq1 : ¬ (0 : Int) ≤ q := fun h => hbl (HB.out.1 h)
        have hqd : decide ((0 : Int) ≤ q) = false := decide_eq_false hq1
        have HEN := Lib.hid (HK.out.2.2.ends (.inr ⟨c, HD.out, by simpa using hbl⟩))
        clear hbl HB
        go_upto_region 2 with fail
        apply wp_region_lk (by kernel_rfl) (by kernel_rfl)
        apply lk_pure _ rfl (by intro W; go_simp; rfl)
        simp only [Act.put, List.setIfInBounds_toArray, List.set_cons_succ, List.set_cons_zero]
        apply lk_pure _ rfl (by intro W; go_simp; rfl)
        simp only [Act.put, List.setIfInBounds_toArray, List.set_cons_succ, List.set_cons_zero]
        apply lk_pure _ rfl (by intro W; go_simp; rfl)
        simp only [Act.put, List.setIfInBounds_toArray, List.set_cons_succ, List.set_cons_zero]
        apply lk_cell (.int .i64 (k : Int)) (r) (1) d1 HL.out rfl (by intro W hW; go_simp)
        simp only [Act.put, List.setIfInBounds_toArray, List.set_cons_succ, List.set_cons_zero]
        apply lk_pure _ rfl (by intro W; go_simp; rfl)
        simp only [Act.put, List.setIfInBounds_toArray, List.set_cons_succ, List.set_cons_zero]
        apply lk_pure _ rfl (by intro W; go_simp; rfl)
        simp only [Act.put, List.setIfInBounds_toArray, List.set_cons_succ, List.set_cons_zero]
        apply lk_pure _ rfl (by intro W; go_simp; rfl)
        simp only [Act.put, List.setIfInBounds_toArray, List.set_cons_succ, List.set_cons_zero]
        apply lk_cell (.string ⟨s.toArray⟩) (r) (0) d0 HL.out rfl (by intro W hW; go_simp)
        simp only [Act.put, List.setIfInBounds_toArray, List.set_cons_succ, List.set_cons_zero]
        apply lk_pure _ rfl (by intro W; go_simp; rfl)
        simp only [Act.put, List.setIfInBounds_toArray, List.set_cons_succ, List.set_cons_zero]
        apply lk_pure _ rfl (by intro W; go_simp; rfl)
        simp only [Act.put, List.setIfInBounds_toArray, List.set_cons_succ, List.set_cons_zero]
        apply lk_pure _ rfl (by intro W; go_simp; rfl)
        simp only [Act.put, List.setIfInBounds_toArray, List.set_cons_succ, List.set_cons_zero]
        apply lk_pure _ rfl (by intro W; go_simp; rfl)
        simp only [Act.put, List.setIfInBounds_toArray, List.set_cons_succ, List.set_cons_zero]
        apply lk_pure _ rfl (by intro W; go_simp; rfl)
        simp only [Act.put, List.setIfInBounds_toArray, List.set_cons_succ, List.set_cons_zero]
        apply lk_pure _ rfl (by intro W; go_simp; rfl)
        simp only [Act.put, List.setIfInBounds_toArray, List.set_cons_succ, List.set_cons_zero]
        apply lk_cell (.string ⟨s.toArray⟩) (r) (0) d0 HL.out rfl (by intro W hW; go_simp)
        simp only [Act.put, List.setIfInBounds_toArray, List.set_cons_succ, List.set_cons_zero]
        apply lk_pure _ rfl (by intro W; go_simp; rfl)
        simp only [Act.put, List.setIfInBounds_toArray, List.set_cons_succ, List.set_cons_zero]
        apply lk_pure _ rfl (by intro W; go_simp; rfl)
        simp only [Act.put, List.setIfInBounds_toArray, List.set_cons_succ, List.set_cons_zero]
        apply lk_pure _ rfl (by intro W; go_simp; rfl)
        simp only [Act.put, List.setIfInBounds_toArray, List.set_cons_succ, List.set_cons_zero]
        apply lk_cell (.int .i64 (k : Int)) (r) (1) d1 HL.out rfl (by intro W hW; go_simp)
        simp only [Act.put, List.setIfInBounds_toArray, List.set_cons_succ, List.set_cons_zero]
        apply lk_pure _ rfl (by intro W; go_simp; rfl)
        simp only [Act.put, List.setIfInBounds_toArray, List.set_cons_succ, List.set_cons_zero]
        apply lk_call (Lft.bare (· = .int .i64 q)) 37 #[.string ⟨#[48, 49, 50, 51, 52, 53, 54, 55, 56, 57, 43, 45, 46, 101, 69]⟩, .int .u8 (c.toNat : Int)] rfl (by intro W; first | (go_simp; done) | (go_simp; exact ⟨rfl, rfl⟩)) (fun W hW => (HC.out W).mono fun en W' ⟨h1, h2⟩ => ⟨_, h1, rfl, trivial, by subst h2; exact Below.refl _ _⟩)
        rintro _ rfl
        simp only [Act.put, List.setIfInBounds_toArray, List.set_cons_succ, List.set_cons_zero]
        apply lk_pure _ rfl (by intro W; go_simp; rfl)
        simp only [Act.put, List.setIfInBounds_toArray, List.set_cons_succ, List.set_cons_zero]
        apply lk_pure _ rfl (by intro W; go_simp; rfl)
        simp only [Act.put, List.setIfInBounds_toArray, List.set_cons_succ, List.set_cons_zero]
        refine lk_nil (Fs := []) ?_
        intro w7 hb7 hz
        have HK2 := Lib.hid (And.intro (HK.out.1.later hb7) (HK.out.2.1.thenB hb7))
        have HAT := Lib.hid HK.out.2.2.1
        have hak : at_ ≤ k := HK.out.2.2.1
        have d0' := HK2.out.1.blk.cell (k := 0) rfl
        have d1' := HK2.out.1.blk.cell (k := 1) rfl
        have HL7 := Lib.hid HK2.out.1.lt
        clear d0 d1 hb7 hz
        go_upto_region 4 with fail
        apply wp_region_lk (by kernel_rfl) (by kernel_rfl)
        apply lk_pure _ rfl (by intro W; go_simp; rfl)
        simp only [Act.put, List.setIfInBounds_toArray, List.set_cons_succ, List.set_cons_zero]
        apply lk_pure _ rfl (by intro W; go_simp; rfl)
        simp only [Act.put, List.setIfInBounds_toArray, List.set_cons_succ, List.set_cons_zero]
        apply lk_pure _ rfl (by intro W; go_simp; rfl)
        simp only [Act.put, List.setIfInBounds_toArray, List.set_cons_succ, List.set_cons_zero]
        apply lk_cell (.string ⟨s.toArray⟩) (r) (0) d0' HL7.out rfl (by intro W hW; go_simp)
        simp only [Act.put, List.setIfInBounds_toArray, List.set_cons_succ, List.set_cons_zero]
        apply lk_pure _ rfl (by intro W; go_simp; rfl)
        simp only [Act.put, List.setIfInBounds_toArray, List.set_cons_succ, List.set_cons_zero]
        apply lk_pure _ rfl (by intro W; go_simp; rfl)
        simp only [Act.put, List.setIfInBounds_toArray, List.set_cons_succ, List.set_cons_zero]
        apply lk_pure _ rfl (by intro W; go_simp; rfl)
        simp only [Act.put, List.setIfInBounds_toArray, List.set_cons_succ, List.set_cons_zero]
        apply lk_pure _ rfl (by intro W; go_simp; rfl)
        simp only [Act.put, List.setIfInBounds_toArray, List.set_cons_succ, List.set_cons_zero]
        apply lk_cell (.int .i64 (k : Int)) (r) (1) d1' HL7.out rfl (by intro W hW; go_simp)
        simp only [Act.put, List.setIfInBounds_toArray, List.set_cons_succ, List.set_cons_zero]
        apply lk_pure _ rfl (by intro W; go_simp; rfl)
        simp only [Act.put, List.setIfInBounds_toArray, List.set_cons_succ, List.set_cons_zero]
        apply lk_pure _ rfl (by intro W; go_simp; rfl)
        simp only [Act.put, List.setIfInBounds_toArray, List.set_cons_succ, List.set_cons_zero]
        refine lk_nil (Fs := []) ?_
        intro w8 hb8 hz
        obtain ⟨M, hM⟩ : ∃ M, (s.take k).drop at_ = M := ⟨_, rfl⟩
        rw [hM]
        have HML := Lib.hid (show M.length ≤ 65536 by rw [← hM, List.length_drop, List.length_take]; omega)
        have HT := Lib.hid (show (s.drop at_).takeWhile numB = M by rw [HEN.out.1, hM])
        have HDD := Lib.hid HEN.out.2
        have HK3 := Lib.hid (And.intro (HK2.out.1.later hb8) (HK2.out.2.thenB hb8))
        clear hM HEN HK2 d0' d1' HL7 hb8 hz hak HK hsz
        go_wp2_with fail
        refine (isnum_calls M HML.out _).mono ?_
        rintro e w9 ⟨rfl, hb9⟩
        have HK4 := Lib.hid (And.intro (HK3.out.1.later hb9) (HK3.out.2.thenB hb9))
        clear hb9 HK3
        by_cases hN : isNumF M = true
        · have HIN := Lib.hid hN
          rw [hN]
          clear hN
          go_wp2_with fail
          refine (atoi_calls M HML.out _ (HERR.out.1.chg HK4.out.2 (by have := HERR.out.2; omega) (by have := HERR.out.2; omega))).mono ?_
          rintro e w10 ⟨hb10, ⟨v, hv, rfl⟩ | ⟨v, N, hv, rfl⟩⟩
          · have HK5 := Lib.hid (And.intro (HK4.out.1.later hb10) (HK4.out.2.thenB hb10))
            have HV := Lib.hid hv
            clear hb10 hv HK4
            by_cases h1 : M = [45, 48]
            · have h1b : (M == [45, 48]) = true := by rw [h1]; rfl
              have HO := Lib.hid (num_out HT.out HIN.out HV.out (.inl h1))
              clear h1
              go_wp2_with fail
              refine (giveUp_calls 7 _).mono ?_
              rintro e w11 ⟨rfl, rfl⟩
              go_wp2_with fail
              exact ⟨rfl, HK5.out.2, .inl ⟨7, HO.out, rfl⟩⟩
            · have h1b : (M == [45, 48]) = false := beq_eq_false_iff_ne.2 h1
              by_cases h2 : v < -9007199254740991
              · have HO := Lib.hid (num_out HT.out HIN.out HV.out (.inr (.inl h2)))
                clear h1
                go_wp2_with fail
                refine (giveUp_calls 7 _).mono ?_
                rintro e w11 ⟨rfl, rfl⟩
                go_wp2_with fail
                exact ⟨rfl, HK5.out.2, .inl ⟨7, HO.out, rfl⟩⟩
              · by_cases h3 : 9007199254740991 < v
                · have HO := Lib.hid (num_out HT.out HIN.out HV.out (.inr (.inr h3)))
                  clear h1
                  go_wp2_with fail
                  refine (giveUp_calls 7 _).mono ?_
                  rintro e w11 ⟨rfl, rfl⟩
                  go_wp2_with fail
                  exact ⟨rfl, HK5.out.2, .inl ⟨7, HO.out, rfl⟩⟩
                · have HO := Lib.hid (num_in HT.out HIN.out HV.out h1 h2 h3)
                  clear h1
                  go_wp2_with fail
                  go_ret
                  exact ⟨HK5.out.2, .inr ⟨v, k, by rw [HO.out, HDD.out], rfl, HK5.out.1⟩⟩
          · have HK5 := Lib.hid (And.intro (HK4.out.1.later hb10) (HK4.out.2.thenB hb10))
            have HO := Lib.hid (num_bad HT.out HIN.out hv)
            clear hb10 hv HK4
            go_wp2_with fail
            refine (giveUp_calls 7 _).mono ?_
            rintro e w11 ⟨rfl, rfl⟩
            go_wp2_with fail
            exact ⟨rfl, HK5.out.2, .inl ⟨7, HO.out, rfl⟩⟩
        · have hN2 : isNumF M = false := by simpa using hN
          have HO := Lib.hid (num_no HT.out hN2)
          rw [hN2]
          clear hN hN2
          go_wp2_with fail
          refine (giveUp_calls 4 _).mono ?_
          rintro e w10 ⟨rfl, rfl⟩
          go_wp2_with fail
          exact ⟨rfl, HK4.out.2, .inl ⟨4, HO.out, rfl⟩⟩
    · obtain rfl : n = k := by omega
      have HEN := Lib.hid (HK.out.2.2.ends (.inl (by rw [← HN.out, List.drop_length])))
      go_upto_region 2 with fail
      apply wp_region_lk (by kernel_rfl) (by kernel_rfl)
      apply lk_pure _ rfl (by intro W; go_simp; rfl)
      simp only [Act.put, List.setIfInBounds_toArray, List.set_cons_succ, List.set_cons_zero]
      apply lk_pure _ rfl (by intro W; go_simp; rfl)
      simp only [Act.put, List.setIfInBounds_toArray, List.set_cons_succ, List.set_cons_zero]
      apply lk_pure _ rfl (by intro W; go_simp; rfl)
      simp only [Act.put, List.setIfInBounds_toArray, List.set_cons_succ, List.set_cons_zero]
      apply lk_cell (.int .i64 (n : Int)) (r) (1) d1 HL.out rfl (by intro W hW; go_simp)
      simp only [Act.put, List.setIfInBounds_toArray, List.set_cons_succ, List.set_cons_zero]
      apply lk_pure _ rfl (by intro W; go_simp; rfl)
      simp only [Act.put, List.setIfInBounds_toArray, List.set_cons_succ, List.set_cons_zero]
      apply lk_pure _ rfl (by intro W; go_simp; rfl)
      simp only [Act.put, List.setIfInBounds_toArray, List.set_cons_succ, List.set_cons_zero]
      apply lk_pure _ rfl (by intro W; go_simp; rfl)
      simp only [Act.put, List.setIfInBounds_toArray, List.set_cons_succ, List.set_cons_zero]
      apply lk_cell (.string ⟨s.toArray⟩) (r) (0) d0 HL.out rfl (by intro W hW; go_simp)
      simp only [Act.put, List.setIfInBounds_toArray, List.set_cons_succ, List.set_cons_zero]
      apply lk_pure _ rfl (by intro W; go_simp; rfl)
      simp only [Act.put, List.setIfInBounds_toArray, List.set_cons_succ, List.set_cons_zero]
      apply lk_pure _ rfl (by intro W; go_simp; rfl)
      simp only [Act.put, List.setIfInBounds_toArray, List.set_cons_succ, List.set_cons_zero]
      apply lk_pure _ rfl (by intro W; go_simp; rfl)
      simp only [Act.put, List.setIfInBounds_toArray, List.set_cons_succ, List.set_cons_zero]
      apply lk_skip0 rfl
      simp only [Act.put, List.setIfInBounds_toArray, List.set_cons_succ, List.set_cons_zero]
      apply lk_skip0 rfl
      simp only [Act.put, List.setIfInBounds_toArray, List.set_cons_succ, List.set_cons_zero]
      apply lk_skip0 rfl
      simp only [Act.put, List.setIfInBounds_toArray, List.set_cons_succ, List.set_cons_zero]
      apply lk_skip0 rfl
      simp only [Act.put, List.setIfInBounds_toArray, List.set_cons_succ, List.set_cons_zero]
      apply lk_skip0 rfl
      simp only [Act.put, List.setIfInBounds_toArray, List.set_cons_succ, List.set_cons_zero]
      apply lk_skip0 rfl
      simp only [Act.put, List.setIfInBounds_toArray, List.set_cons_succ, List.set_cons_zero]
      apply lk_skip0 rfl
      simp only [Act.put, List.setIfInBounds_toArray, List.set_cons_succ, List.set_cons_zero]
      apply lk_skip0 rfl
      simp only [Act.put, List.setIfInBounds_toArray, List.set_cons_succ, List.set_cons_zero]
      apply lk_skip0 rfl
      simp only [Act.put, List.setIfInBounds_toArray, List.set_cons_succ, List.set_cons_zero]
      apply lk_skip0 rfl
      simp only [Act.put, List.setIfInBounds_toArray, List.set_cons_succ, List.set_cons_zero]
      apply lk_skip0 rfl
      simp only [Act.put, List.setIfInBounds_toArray, List.set_cons_succ, List.set_cons_zero]
      apply lk_pure _ rfl (by intro W; go_simp; rfl)
      simp only [Act.put, List.setIfInBounds_toArray, List.set_cons_succ, List.set_cons_zero]
      refine lk_nil (Fs := []) ?_
      intro w7 hb7 hz
      have HK2 := Lib.hid (And.intro (HK.out.1.later hb7) (HK.out.2.1.thenB hb7))
      have HAT := Lib.hid HK.out.2.2.1
      have hak : at_ ≤ n := HK.out.2.2.1
      have d0' := HK2.out.1.blk.cell (k := 0) rfl
      have d1' := HK2.out.1.blk.cell (k := 1) rfl
      have HL7 := Lib.hid HK2.out.1.lt
      clear d0 d1 hb7 hz
      go_upto_region 4 with fail
      apply wp_region_lk (by kernel_rfl) (by kernel_rfl)
      apply lk_pure _ rfl (by intro W; go_simp; rfl)
      simp only [Act.put, List.setIfInBounds_toArray, List.set_cons_succ, List.set_cons_zero]
      apply lk_pure _ rfl (by intro W; go_simp; rfl)
      simp only [Act.put, List.setIfInBounds_toArray, List.set_cons_succ, List.set_cons_zero]
      apply lk_pure _ rfl (by intro W; go_simp; rfl)
      simp only [Act.put, List.setIfInBounds_toArray, List.set_cons_succ, List.set_cons_zero]
      apply lk_cell (.string ⟨s.toArray⟩) (r) (0) d0' HL7.out rfl (by intro W hW; go_simp)
      simp only [Act.put, List.setIfInBounds_toArray, List.set_cons_succ, List.set_cons_zero]
      apply lk_pure _ rfl (by intro W; go_simp; rfl)
      simp only [Act.put, List.setIfInBounds_toArray, List.set_cons_succ, List.set_cons_zero]
      apply lk_pure _ rfl (by intro W; go_simp; rfl)
      simp only [Act.put, List.setIfInBounds_toArray, List.set_cons_succ, List.set_cons_zero]
      apply lk_pure _ rfl (by intro W; go_simp; rfl)
      simp only [Act.put, List.setIfInBounds_toArray, List.set_cons_succ, List.set_cons_zero]
      apply lk_pure _ rfl (by intro W; go_simp; rfl)
      simp only [Act.put, List.setIfInBounds_toArray, List.set_cons_succ, List.set_cons_zero]
      apply lk_cell (.int .i64 (n : Int)) (r) (1) d1' HL7.out rfl (by intro W hW; go_simp)
      simp only [Act.put, List.setIfInBounds_toArray, List.set_cons_succ, List.set_cons_zero]
      apply lk_pure _ rfl (by intro W; go_simp; rfl)
      simp only [Act.put, List.setIfInBounds_toArray, List.set_cons_succ, List.set_cons_zero]
      apply lk_pure _ rfl (by intro W; go_simp; rfl)
      simp only [Act.put, List.setIfInBounds_toArray, List.set_cons_succ, List.set_cons_zero]
      refine lk_nil (Fs := []) ?_
      intro w8 hb8 hz
      obtain ⟨M, hM⟩ : ∃ M, (s.take n).drop at_ = M := ⟨_, rfl⟩
      rw [hM]
      have HML := Lib.hid (show M.length ≤ 65536 by rw [← hM, List.length_drop, List.length_take]; omega)
      have HT := Lib.hid (show (s.drop at_).takeWhile numB = M by rw [HEN.out.1, hM])
      have HDD := Lib.hid HEN.out.2
      have HK3 := Lib.hid (And.intro (HK2.out.1.later hb8) (HK2.out.2.thenB hb8))
      clear hM HEN HK2 d0' d1' HL7 hb8 hz hak HK hsz
      go_wp2_with fail
      refine (isnum_calls M HML.out _).mono ?_
      rintro e w9 ⟨rfl, hb9⟩
      have HK4 := Lib.hid (And.intro (HK3.out.1.later hb9) (HK3.out.2.thenB hb9))
      clear hb9 HK3
      by_cases hN : isNumF M = true
      · have HIN := Lib.hid hN
        rw [hN]
        clear hN
        go_wp2_with fail
        refine (atoi_calls M HML.out _ (HERR.out.1.chg HK4.out.2 (by have := HERR.out.2; omega) (by have := HERR.out.2; omega))).mono ?_
        rintro e w10 ⟨hb10, ⟨v, hv, rfl⟩ | ⟨v, N, hv, rfl⟩⟩
        · have HK5 := Lib.hid (And.intro (HK4.out.1.later hb10) (HK4.out.2.thenB hb10))
          have HV := Lib.hid hv
          clear hb10 hv HK4
          by_cases h1 : M = [45, 48]
          · have h1b : (M == [45, 48]) = true := by rw [h1]; rfl
            have HO := Lib.hid (num_out HT.out HIN.out HV.out (.inl h1))
            clear h1
            go_wp2_with fail
            refine (giveUp_calls 7 _).mono ?_
            rintro e w11 ⟨rfl, rfl⟩
            go_wp2_with fail
            exact ⟨rfl, HK5.out.2, .inl ⟨7, HO.out, rfl⟩⟩
          · have h1b : (M == [45, 48]) = false := beq_eq_false_iff_ne.2 h1
            by_cases h2 : v < -9007199254740991
            · have HO := Lib.hid (num_out HT.out HIN.out HV.out (.inr (.inl h2)))
              clear h1
              go_wp2_with fail
              refine (giveUp_calls 7 _).mono ?_
              rintro e w11 ⟨rfl, rfl⟩
              go_wp2_with fail
              exact ⟨rfl, HK5.out.2, .inl ⟨7, HO.out, rfl⟩⟩
            · by_cases h3 : 9007199254740991 < v
              · have HO := Lib.hid (num_out HT.out HIN.out HV.out (.inr (.inr h3)))
                clear h1
                go_wp2_with fail
                refine (giveUp_calls 7 _).mono ?_
                rintro e w11 ⟨rfl, rfl⟩
                go_wp2_with fail
                exact ⟨rfl, HK5.out.2, .inl ⟨7, HO.out, rfl⟩⟩
              · have HO := Lib.hid (num_in HT.out HIN.out HV.out h1 h2 h3)
                clear h1
                go_wp2_with fail
                go_ret
                exact ⟨HK5.out.2, .inr ⟨v, n, by rw [HO.out, HDD.out], rfl, HK5.out.1⟩⟩
        · have HK5 := Lib.hid (And.intro (HK4.out.1.later hb10) (HK4.out.2.thenB hb10))
          have HO := Lib.hid (num_bad HT.out HIN.out hv)
          clear hb10 hv HK4
          go_wp2_with fail
          refine (giveUp_calls 7 _).mono ?_
          rintro e w11 ⟨rfl, rfl⟩
          go_wp2_with fail
          exact ⟨rfl, HK5.out.2, .inl ⟨7, HO.out, rfl⟩⟩
      · have hN2 : isNumF M = false := by simpa using hN
        have HO := Lib.hid (num_no HT.out hN2)
        rw [hN2]
        clear hN hN2
        go_wp2_with fail
        refine (giveUp_calls 4 _).mono ?_
        rintro e w10 ⟨rfl, rfl⟩
        go_wp2_with fail
        exact ⟨rfl, HK4.out.2, .inl ⟨4, HO.out, rfl⟩⟩
end Go.Proofs.YtajkgcmopmpihaaGreatDoor
