/- Texts put together: EcG EcL. -/
import Derived.Test.YtonpkbiplcbodaaDoorZa12cf955a1
import Derived.Test.YtonpkbiplcbodaaDoorZ1b1d291a22
import Derived.Test.YtonpkbiplcbodaaDoorZ8313730456
import Derived.Test.YtonpkbiplcbodaaDoorZ6ed6e40ad2
import Derived.Test.YtonpkbiplcbodaaDoorZfa1aa016e3
import Derived.Deep.Cut
namespace Go.Proofs.YtonpkbiplcbodaaDoor
open Go.ChangeShapes Go.WideShapes Go.ChangeAt Go.RowKit Go.IntWalk
set_option linter.unusedVariables false
set_option maxRecDepth 100000

theorem le_sumL : ∀ {xs : List (List UInt8)} {x : List UInt8}, x ∈ xs → x.length ≤ sumL xs
  | y :: xs, x, h => by
    unfold sumL
    rw [List.map_cons, List.sum_cons]
    rcases List.mem_cons.1 h with rfl | h
    · omega
    · have := le_sumL h; unfold sumL at this; omega
theorem le_sumS : ∀ {xs : List Sg} {x : Sg}, x ∈ xs → sgL x ≤ sumS xs
  | y :: xs, x, h => by
    unfold sumS
    rw [List.map_cons, List.sum_cons]
    rcases List.mem_cons.1 h with rfl | h
    · omega
    · have := le_sumS h; unfold sumS at this; omega
theorem smal_of {e : Ev} {m : Nat} (h : GF e m) (hm : m ≤ 1000000) : Smal e := by
  obtain ⟨T, h1, h2, _⟩ := h
  unfold headN at h2
  refine ⟨by omega, by omega, fun x hx => ?_, fun x hx => ?_⟩
  · rcases List.mem_append.1 hx with hx | hx
    · have := le_sumL hx; omega
    · have := le_sumL hx; omega
  · have := le_sumS hx
    unfold sgL at this; omega
def hashL : List UInt8 := [65, 65, 65, 65, 65, 65, 65, 65, 65, 65, 65, 65, 65, 65, 65, 65, 65, 65, 65, 65, 65, 65, 65, 65, 65, 65, 65, 65, 65, 65, 65, 65, 65, 65, 65, 65, 65, 65, 65, 65, 65, 65, 65]
/-- The law's plain event. -/
def plE : Ev := ⟨[33, 114, 58, 97], [64, 117, 58, 97], [116], false, [], ⟨5, false, 0, [], .nil, .nil⟩, [36 :: hashL], [], 0, 0, hashL, []⟩
/-- The empty event. -/
def zeE : Ev := ⟨[], [], [], false, [], ⟨0, false, 0, [], .nil, .nil⟩, [], [], 0, 0, [], []⟩
theorem plE_chk : ChkIs plE 0 := by
  refine .inr (.inl ⟨?_, ⟨⟨?_, ?_, ?_⟩, ⟨⟨?_, ?_, ?_, .inl rfl⟩, rfl, ?_⟩, ?_, ?_, ?_⟩, rfl⟩)
  · unfold ManyP plE; simp
  · intro x hx
    have : x = 36 :: hashL := by simpa [plE] using hx
    rw [this]; decide +kernel
  · decide +kernel
  · decide +kernel
  · decide
  · decide +kernel
  · decide +kernel
  · decide +kernel
  · unfold countP plE; simp
  · decide +kernel
  · intro i hi; exact absurd hi (by simp [plE])
theorem zeE_chk : ChkIs zeE 21 := by
  refine .inr (.inr ⟨?_, ?_, rfl⟩)
  · unfold ManyP zeE; simp
  · intro h; exact h.2.1.1.1 rfl
theorem plE_sm : Smal plE := by
  refine ⟨by decide, by decide, fun x hx => ?_, fun x hx => absurd hx (by simp [plE])⟩
  have : x = 36 :: hashL := by simpa [plE] using hx
  rw [this]; decide
theorem zeE_sm : Smal zeE := ⟨by decide, by decide, fun x hx => absurd hx (by simp [zeE]), fun x hx => absurd hx (by simp [zeE])⟩
def zeA : Ea := ⟨none, none, 0, 0, 0, 0, none, 0, 0, none, 0, 0, none, 0, 0⟩
def plA (g : Nat) : Ea := ⟨none, none, 0, 0, 0, 0, some ⟨g, 0, none⟩, 1, 1, none, 0, 0, none, 0, 0⟩
theorem nilStrs (w : World) : Strs w none 0 0 [] := ⟨RV.nil _ _, Lib.hid rfl, Nat.le_refl _, by decide, fun x h => absurd h List.not_mem_nil⟩
theorem nilSgs (w : World) : Sgs w none 0 0 [] := ⟨RV.nil _ _, Lib.hid rfl, Nat.le_refl _, by decide, fun x h => absurd h List.not_mem_nil⟩
theorem zeE_ok (w : World) : EOk w zeE zeA := ⟨⟨⟨rfl, Nat.le_refl _, by decide⟩, ⟨rfl, Nat.le_refl _, by decide⟩, .inl rfl, .inl rfl, by unfold Fit zeE; decide⟩, nilStrs w, nilStrs w, nilSgs w, by unfold EFit zeE; decide⟩
theorem plE_str {w : World} {g : Nat} (h : Blk w g 9 [.string ⟨(36 :: hashL).toArray⟩]) : Strs w (some ⟨g, 0, none⟩) 1 1 [36 :: hashL] :=
  ⟨RV.of_blk h, Lib.hid rfl, Nat.le_refl _, by decide, fun x hx => by
    have : x = 36 :: hashL := by simpa using hx
    rw [this]; decide⟩
theorem plE_ok {w : World} {g : Nat} (h : Blk w g 9 [.string ⟨(36 :: hashL).toArray⟩]) : EOk w plE (plA g) := ⟨⟨⟨rfl, Nat.le_refl _, Nat.zero_le _⟩, ⟨rfl, Nat.le_refl _, Nat.zero_le _⟩, .inl rfl, .inl rfl, by unfold Fit plE; decide⟩, plE_str h, nilStrs w, nilSgs w, by unfold EFit plE; decide⟩
theorem hash_cat : (⟨#[36]⟩ : ByteArray) ++ ⟨#[65, 65, 65, 65, 65, 65, 65, 65, 65, 65, 65, 65, 65, 65, 65, 65, 65, 65, 65, 65, 65, 65, 65, 65, 65, 65, 65, 65, 65, 65, 65, 65, 65, 65, 65, 65, 65, 65, 65, 65, 65, 65, 65]⟩ = ⟨(36 :: hashL).toArray⟩ := by decide +kernel
theorem plain_mem (w : World) (W : World) (h : W = (w.alloc (.cells (evC plE (plA (w.heap.size + 1))).toArray 29)).alloc (.cells #[.string ⟨(36 :: hashL).toArray⟩] 9)) :
    Blk W w.heap.size 29 (evC plE (plA (w.heap.size + 1))) ∧ EOk W plE (plA (w.heap.size + 1)) ∧ Below w.heap.size w W := by
  subst h
  refine ⟨(Blk.new w (evC plE (plA (w.heap.size + 1))) 29).alloc _, plE_ok ?_, ((Below.refl _ _).alloc (Nat.le_refl _) _).alloc (by simp) _⟩
  have := Blk.new (w.alloc (.cells (evC plE (plA (w.heap.size + 1))).toArray 29)) [.string ⟨(36 :: hashL).toArray⟩] 9
  simpa using this
theorem evplain_calls (w : World) : Calls Tryd.prog 5 #[] w fun e w' => (∃ g, e = .returned (.agg (evC plE (plA g)).toArray) ∧ EOk w' plE (plA g)) ∧ Below w.heap.size w w' := by
  go_enter Tryd.func5, Tryd.ntmps5
  go_wp2_with fail
  rw [hash_cat]
  obtain ⟨h1, h2, h3⟩ := plain_mem w _ rfl
  exact bodyPost_ret (v := .agg (evC plE (plA (w.heap.size + 1))).toArray) (res_cell rfl _ _ _ _ rfl (h1.load 29 Tryd.underlying29 rfl (size_ev _ _))) rfl ⟨⟨_, rfl, h2⟩, h3⟩
end Go.Proofs.YtonpkbiplcbodaaDoor
namespace Go.Proofs.YtonpkbiplcbodaaDoor
open Go.ChangeShapes Go.WideShapes Go.ChangeAt Go.RowKit Go.IntWalk
set_option linter.unusedVariables false
set_option maxRecDepth 100000

def ftG (e : Ev) : Lft := Lft.bare fun v => ∃ r, v = .bool r ∧ (r = false → GF e 8192)
def ftK (e : Ev) : Lft := Lft.bare fun v => ∃ x : Int, v = .int .i64 x ∧ ChkIs e x
theorem runCh {e : Ev} {a : Ea} {W : World} {f : FuncId} (h : Calls Tryd.prog f #[.agg (evC e a).toArray] W (ChkP e W)) : Calls Tryd.prog f #[.agg (evC e a).toArray] W (fun en W' => ∃ v, en = .returned v ∧ (ftK e).R v ∧ (ftK e).M v W' ∧ Below W.heap.size W W') :=
  h.mono fun en W' ⟨x, h1, h2, h3⟩ => ⟨_, h1, ⟨x, rfl, h2⟩, trivial, h3⟩
set_option maxHeartbeats 16000000 in
theorem eventChecks_walk (e : Ev) (a : Ea) {w : World} (he : EOk w e a) (hm : Max w) (hT : TabJ w) : Calls Tryd.prog 3 #[.agg (evC e a).toArray] w fun en w' => en = .returned (.bool true) ∧ Below w.heap.size w w' := by
  have b0 : Below w.heap.size w (w.alloc (.cells (evC e a).toArray 29)) := (Below.refl _ _).alloc (Nat.le_refl _) _
  have HB0 := Lib.hid b0
  have HX := Lib.hid (Blk.new w (evC e a) 29)
  have HE := Lib.hid he
  have HT := Lib.hid hT
  have HM := Lib.hid hm
  clear he hT hm b0
  go_enter Tryd.func3, Tryd.ntmps3
  go_wp2_with fail
  refine (evplain_calls _).mono ?_
  rintro en w1 ⟨⟨g, rfl, hp⟩, hb⟩
  have HB1 := Lib.hid (HB0.out.then_ hb)
  have HX1 := Lib.hid (HX.out.later hb)
  have HC1 := Lib.hid (check_calls plE (plA g) w1 (HM.out.below HB1.out) (HT.out.below HB1.out) hp (fun _ => plE_sm))
  clear hb hp
  go_wp2_with fail
  refine HC1.out.mono ?_
  rintro en w2 ⟨x, rfl, hx, hb⟩
  obtain rfl := hx.one plE_chk
  have HB2 := Lib.hid (HB1.out.then_ hb)
  have HX2 := Lib.hid (HX1.out.later hb)
  have HC2 := Lib.hid (check_calls zeE zeA w2 (HM.out.below HB2.out) (HT.out.below HB2.out) (zeE_ok w2) (fun _ => zeE_sm))
  clear hb hx HC1
  go_wp2_with fail
  refine HC2.out.mono ?_
  rintro en w3 ⟨x, rfl, hx, hb⟩
  obtain rfl := hx.one zeE_chk
  have HB3 := Lib.hid (HB2.out.then_ hb)
  have HX3 := Lib.hid (HX2.out.later hb)
  clear hb hx HC2
  go_upto_region 3 with fail
  apply wp_region_lkt 8 (by kernel_rfl) (by kernel_rfl)
  simp only [List.take_succ_cons, List.take_zero, List.drop_succ_cons, List.drop_zero]
  apply lk_load 29 (.tmp 1) rfl w.heap.size 0 _ _ HX3.out.rng HX3.out.lt Tryd.underlying29 rfl (size_ev e a) rfl rfl
  simp only [Act.put, List.setIfInBounds_toArray, List.set_cons_succ, List.set_cons_zero]
  apply lk_call (ftG e) 6 #[.agg (evC e a).toArray, .int .i64 8192] rfl (by intro W; first | (go_simp; done) | (go_simp; exact ⟨rfl, rfl⟩)) (fun W hW => (refgreat_calls e a 8192 W (HE.out.below (HB3.out.then_ hW)) (by decide)).mono fun en W' ⟨r, h1, h2, h3⟩ => ⟨_, h1, ⟨r, rfl, h2⟩, trivial, h3⟩)
  rintro _ ⟨r, rfl, hr⟩
  simp only [Act.put, List.setIfInBounds_toArray, List.set_cons_succ, List.set_cons_zero]
  apply lk_move_in (fun v => ∃ r, v = .bool r ∧ (r = false → GF e 8192)) (.tmp 12) rfl rfl ⟨r, rfl, hr⟩
  clear hr
  rintro _ ⟨r, rfl, hr⟩
  simp only [Act.put, List.setIfInBounds_toArray, List.set_cons_succ, List.set_cons_zero]
  cases r with
  | false =>
    have HS := Lib.hid (smal_of (hr rfl) (by decide))
    clear hr
    apply lk_load 29 (.tmp 1) rfl w.heap.size 0 _ _ HX3.out.rng HX3.out.lt Tryd.underlying29 rfl (size_ev e a) rfl rfl
    simp only [Act.put, List.setIfInBounds_toArray, List.set_cons_succ, List.set_cons_zero]
    apply lk_call (ftK e) 4 #[.agg (evC e a).toArray] rfl (by intro W; first | (go_simp; done) | (go_simp; exact ⟨rfl, rfl⟩)) (fun W hW => runCh (check_calls e a W (HM.out.below (HB3.out.then_ hW)) (HT.out.below (HB3.out.then_ hW)) (HE.out.below (HB3.out.then_ hW)) (fun _ => HS.out)))
    rintro _ ⟨x, rfl, hx⟩
    simp only [Act.put, List.setIfInBounds_toArray, List.set_cons_succ, List.set_cons_zero]
    apply lk_load 29 (.tmp 1) rfl w.heap.size 0 _ _ HX3.out.rng HX3.out.lt Tryd.underlying29 rfl (size_ev e a) rfl rfl
    simp only [Act.put, List.setIfInBounds_toArray, List.set_cons_succ, List.set_cons_zero]
    apply lk_call (ftK e) 7 #[.agg (evC e a).toArray] rfl (by intro W; first | (go_simp; done) | (go_simp; exact ⟨rfl, rfl⟩)) (fun W hW => runCh (refcheck_calls e a W (HT.out.below (HB3.out.then_ hW)) (HE.out.below (HB3.out.then_ hW)) (fun _ => HS.out)))
    rintro _ ⟨y, rfl, hy⟩
    simp only [Act.put, List.setIfInBounds_toArray, List.set_cons_succ, List.set_cons_zero]
    obtain rfl := hx.one hy
    apply lk_pure (.bool true) rfl (by intro W; go_simp)
    simp only [Act.put, List.setIfInBounds_toArray, List.set_cons_succ, List.set_cons_zero]
    refine lk_nil (Fs := []) ?_
    intro w7 hb7 hz
    have HB7 := Lib.hid (HB3.out.then_ hb7)
    clear hb7 hz
    go_wp2_with fail
    go_ret
    exact ⟨rfl, HB7.out⟩
  | true =>
    apply lk_skip rfl
    simp only [Act.put, List.setIfInBounds_toArray, List.set_cons_succ, List.set_cons_zero]
    apply lk_skip rfl
    simp only [Act.put, List.setIfInBounds_toArray, List.set_cons_succ, List.set_cons_zero]
    apply lk_skip rfl
    simp only [Act.put, List.setIfInBounds_toArray, List.set_cons_succ, List.set_cons_zero]
    apply lk_skip rfl
    simp only [Act.put, List.setIfInBounds_toArray, List.set_cons_succ, List.set_cons_zero]
    apply lk_skip rfl
    simp only [Act.put, List.setIfInBounds_toArray, List.set_cons_succ, List.set_cons_zero]
    refine lk_nil (Fs := []) ?_
    intro w7 hb7 hz
    have HB7 := Lib.hid (HB3.out.then_ hb7)
    clear hb7 hz
    go_wp2_with fail
    go_ret
    exact ⟨rfl, HB7.out⟩
end Go.Proofs.YtonpkbiplcbodaaDoor
