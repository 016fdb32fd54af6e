/-
  'SignVerifies': for every input the law returns true, and each argument reads behind the call as it read before.
  Condition: the package-level variables that the row lists hold what the program's text lays (tied to it by the card).
  The walk is proved in the texts that this one imports.
-/
import Derived.Test.YtkfdclnaaphdgaaDoorSgL
import Derived.Test.YtkfdclnaaphdgaaDoorArr
import Derived.Test.YtkfdclnaaphdgaaDoorCards
import Derived.Test.YtkfdclnaaphdgaaDoorTie
import Derived.WalkKit
import Derived.ProofKit
import Derived.OpenShut
import Derived.ShutString
import Derived.ChangeOld
import Derived.Below
import Derived.HandedShaped
import Derived.SizedLaws
import Derived.Deep.DeepHandedRow
import Derived.Lib.LaidTab
import Derived.LaidSub
namespace Go.Proofs.YtkfdclnaaphdgaaDoor.signVerifies
open Go.ChangeShapes Go.WideShapes Go.ChangeAt Go.RowKit
open Go.ChangeMaps (open_string shut_string)
set_option linter.unusedVariables false

theorem own : ownKnob Tryd.prog.godebug = none := by kernel_rfl
theorem laidOut : laidOutB Tryd.prog = true := by kernel_rfl
def zs0 : List Int := [4794697086780616226, 8158064640168781261, 13096744586834688815, 16840607885511220156, 4131703408338449720, 6480981068601479193, 10538285296894168987, 12329834152419229976, 15566598209576043074, 1334009975649890238, 2608012711638119052, 6128411473006802146, 8268148722764581231, 9286055187155687089, 11230858885718282805, 13951009754708518548, 16472876342353939154, 17275323862435702243, 1135362057144423861, 2597628984639134821, 3308224258029322869, 5365058923640841347, 6679025012923562964, 8573033837759648693, 10970295158949994411, 12119686244451234320, 12683024718118986047, 13788192230050041572, 14330467153632333762, 15395433587784984357, 489312712824947311, 1452737877330783856, 2861767655752347644, 3322285676063803686, 5560940570517711597, 5996557281743188959, 7280758554555802590, 8532644243296465576, 9350256976987008742, 10552545826968843579, 11727347734174303076, 12113106623233404929, 14000437183269869457, 14369950271660146224, 15101387698204529176, 15463397548674623760, 17586052441742319658, 1182934255886127544, 1847814050463011016, 2177327727835720531, 2830643537854262169, 3796741975233480872, 4115178125766777443, 5681478168544905931, 6601373596472566643, 7507060721942968483, 8399075790359081724, 8693463985226723168, 9568029438360202098, 10144078919501101548, 10430055236837252648, 11840083180663258601, 13761210420658862357, 14299343276471374635, 14566680578165727644, 15097957966210449927, 16922976911328602910, 17689382322260857208, 500013540394364858, 748580250866718886, 1242879168328830382, 1977374033974150939, 2944078676154940804, 3659926193048069267, 4368137639120453308, 4836135668995329356, 5532061633213252278, 6448918945643986474, 6902733635092675308, 7801388544844847127]
theorem gTab0 : Tryd.prog.globalNamed "hustings/digest2.primeRoots" = some 4 := by kernel_rfl
theorem gTabType0 : (Tryd.prog.globals[4]?).map (·.type) = some 139 := by kernel_rfl
theorem cells0 : Dh.us Dh.KS = zs0.map (Value.int .u64) := by rfl
set_option maxRecDepth 100000 in
theorem tg0 {W : World} (h : laidMet Tryd.prog [("hustings/digest2.primeRoots", Lib.tabData .u64 zs0)] W) : W.rangeAt 4 0 (Dh.us Dh.KS) ∧ 4 < W.heap.size := by
  have t : Lib.TabIs Tryd.prog W "hustings/digest2.primeRoots" .u64 zs0 := Lib.tabIs_of_head (rest := []) gTab0 gTabType0 Tryd.underlying139 Tryd.underlying37 (by kernel_rfl) (by kernel_rfl) h
  have hlen : zs0.length = 80 := by decide
  refine ⟨fun j v hj => ?_, ?_⟩
  · rw [cells0] at hj
    have hj2 : j < zs0.length := by
      rcases Nat.lt_or_ge j zs0.length with h | h
      · exact h
      · simp [List.getElem?_eq_none h] at hj
    have := t.cell gTab0 j hj2
    rw [Nat.zero_add, this, ← hj]
    simp [List.getD, hj2]
  · exact World.block_lt_of_cell? W _ (t.cell gTab0 0 (by rw [hlen]; decide))
def zs1 : List Int := [163, 120, 89, 19, 202, 77, 235, 117, 171, 216, 65, 65, 77, 10, 112, 0, 152, 232, 121, 119, 121, 64, 199, 140, 115, 254, 111, 43, 238, 108, 3, 82]
theorem gTab1 : Tryd.prog.globalNamed "hustings/curve.d" = some 3 := by kernel_rfl
theorem gTabType1 : (Tryd.prog.globals[3]?).map (·.type) = some 22 := by kernel_rfl
theorem cells1 : u8s dB = zs1.map (Value.int .u8) := by rfl
set_option maxRecDepth 100000 in
theorem tg1 {W : World} (h : laidMet Tryd.prog [("hustings/curve.d", Lib.tabData .u8 zs1)] W) : W.rangeAt 3 0 (u8s dB) ∧ 3 < W.heap.size := by
  have t : Lib.TabIs Tryd.prog W "hustings/curve.d" .u8 zs1 := Lib.tabIs_of_head (rest := []) gTab1 gTabType1 Tryd.underlying22 Tryd.underlying5 (by kernel_rfl) (by kernel_rfl) h
  have hlen : zs1.length = 32 := by decide
  refine ⟨fun j v hj => ?_, ?_⟩
  · rw [cells1] at hj
    have hj2 : j < zs1.length := by
      rcases Nat.lt_or_ge j zs1.length with h | h
      · exact h
      · simp [List.getElem?_eq_none h] at hj
    have := t.cell gTab1 j hj2
    rw [Nat.zero_add, this, ← hj]
    simp [List.getD, hj2]
  · exact World.block_lt_of_cell? W _ (t.cell gTab1 0 (by rw [hlen]; decide))
def zs2 : List Int := [26, 213, 37, 143, 96, 45, 86, 201, 178, 167, 37, 149, 96, 199, 44, 105, 92, 220, 214, 253, 49, 226, 164, 192, 254, 83, 110, 205, 211, 54, 105, 33]
theorem gTab2 : Tryd.prog.globalNamed "hustings/curve.baseX" = some 1 := by kernel_rfl
theorem gTabType2 : (Tryd.prog.globals[1]?).map (·.type) = some 22 := by kernel_rfl
theorem cells2 : u8s bxB = zs2.map (Value.int .u8) := by rfl
set_option maxRecDepth 100000 in
theorem tg2 {W : World} (h : laidMet Tryd.prog [("hustings/curve.baseX", Lib.tabData .u8 zs2)] W) : W.rangeAt 1 0 (u8s bxB) ∧ 1 < W.heap.size := by
  have t : Lib.TabIs Tryd.prog W "hustings/curve.baseX" .u8 zs2 := Lib.tabIs_of_head (rest := []) gTab2 gTabType2 Tryd.underlying22 Tryd.underlying5 (by kernel_rfl) (by kernel_rfl) h
  have hlen : zs2.length = 32 := by decide
  refine ⟨fun j v hj => ?_, ?_⟩
  · rw [cells2] at hj
    have hj2 : j < zs2.length := by
      rcases Nat.lt_or_ge j zs2.length with h | h
      · exact h
      · simp [List.getElem?_eq_none h] at hj
    have := t.cell gTab2 j hj2
    rw [Nat.zero_add, this, ← hj]
    simp [List.getD, hj2]
  · exact World.block_lt_of_cell? W _ (t.cell gTab2 0 (by rw [hlen]; decide))
def zs3 : List Int := [88, 102, 102, 102, 102, 102, 102, 102, 102, 102, 102, 102, 102, 102, 102, 102, 102, 102, 102, 102, 102, 102, 102, 102, 102, 102, 102, 102, 102, 102, 102, 102]
theorem gTab3 : Tryd.prog.globalNamed "hustings/curve.baseY" = some 2 := by kernel_rfl
theorem gTabType3 : (Tryd.prog.globals[2]?).map (·.type) = some 22 := by kernel_rfl
theorem cells3 : u8s byB = zs3.map (Value.int .u8) := by rfl
set_option maxRecDepth 100000 in
theorem tg3 {W : World} (h : laidMet Tryd.prog [("hustings/curve.baseY", Lib.tabData .u8 zs3)] W) : W.rangeAt 2 0 (u8s byB) ∧ 2 < W.heap.size := by
  have t : Lib.TabIs Tryd.prog W "hustings/curve.baseY" .u8 zs3 := Lib.tabIs_of_head (rest := []) gTab3 gTabType3 Tryd.underlying22 Tryd.underlying5 (by kernel_rfl) (by kernel_rfl) h
  have hlen : zs3.length = 32 := by decide
  refine ⟨fun j v hj => ?_, ?_⟩
  · rw [cells3] at hj
    have hj2 : j < zs3.length := by
      rcases Nat.lt_or_ge j zs3.length with h | h
      · exact h
      · simp [List.getElem?_eq_none h] at hj
    have := t.cell gTab3 j hj2
    rw [Nat.zero_add, this, ← hj]
    simp [List.getD, hj2]
  · exact World.block_lt_of_cell? W _ (t.cell gTab3 0 (by rw [hlen]; decide))
def zs4 : List Int := [6346243789798364141, 1503914060200516822, 0, 1152921504606846976]
theorem gTab4 : Tryd.prog.globalNamed "hustings/scalar.order" = some 0 := by kernel_rfl
theorem gTabType4 : (Tryd.prog.globals[0]?).map (·.type) = some 67 := by kernel_rfl
theorem cells4 : Sc.us Sc.KS = zs4.map (Value.int .u64) := by rfl
set_option maxRecDepth 100000 in
theorem tg4 {W : World} (h : laidMet Tryd.prog [("hustings/scalar.order", Lib.tabData .u64 zs4)] W) : W.rangeAt 0 0 (Sc.us Sc.KS) ∧ 0 < W.heap.size := by
  have t : Lib.TabIs Tryd.prog W "hustings/scalar.order" .u64 zs4 := Lib.tabIs_of_head (rest := []) gTab4 gTabType4 Tryd.underlying67 Tryd.underlying37 (by kernel_rfl) (by kernel_rfl) h
  have hlen : zs4.length = 4 := by decide
  refine ⟨fun j v hj => ?_, ?_⟩
  · rw [cells4] at hj
    have hj2 : j < zs4.length := by
      rcases Nat.lt_or_ge j zs4.length with h | h
      · exact h
      · simp [List.getElem?_eq_none h] at hj
    have := t.cell gTab4 j hj2
    rw [Nat.zero_add, this, ← hj]
    simp [List.getD, hj2]
  · exact World.block_lt_of_cell? W _ (t.cell gTab4 0 (by rw [hlen]; decide))
/-- What the row's list gives: the tables' cells hold their numbers. -/
theorem table {W : World} (h0 : laidMetH Tryd.prog Rows.signVerifiesRow.laid W) : Go.Proofs.YtkfdclnaaphdgaaDoor.Tab7 W := by
  have h : laidMet Tryd.prog Rows.signVerifiesRow.laid W := h0
  have tg0 := tg0 (by have h1 := laidMet.filter (fun x => x.1 == "hustings/digest2.primeRoots") h; exact h1)
  have tg1 := tg1 (by have h1 := laidMet.filter (fun x => x.1 == "hustings/curve.d") h; exact h1)
  have tg2 := tg2 (by have h1 := laidMet.filter (fun x => x.1 == "hustings/curve.baseX") h; exact h1)
  have tg3 := tg3 (by have h1 := laidMet.filter (fun x => x.1 == "hustings/curve.baseY") h; exact h1)
  have tg4 := tg4 (by have h1 := laidMet.filter (fun x => x.1 == "hustings/scalar.order") h; exact h1)
  exact ⟨⟨tg0, tg1, tg2, tg3⟩, tg4⟩
/-- A world for the witness: the settled one, the tables holding what their initialisers lay. -/
noncomputable def laidWorld (os : Os) : World :=
  { World.holding Tryd.prog os ⟨#[], #[], []⟩ with heap := (((((((World.holding Tryd.prog os ⟨#[], #[], []⟩).heap).modify 4 (fun
      | .cells _ t frozen => .cells #[.int .u64 4794697086780616226, .int .u64 8158064640168781261, .int .u64 13096744586834688815, .int .u64 16840607885511220156, .int .u64 4131703408338449720, .int .u64 6480981068601479193, .int .u64 10538285296894168987, .int .u64 12329834152419229976, .int .u64 15566598209576043074, .int .u64 1334009975649890238, .int .u64 2608012711638119052, .int .u64 6128411473006802146, .int .u64 8268148722764581231, .int .u64 9286055187155687089, .int .u64 11230858885718282805, .int .u64 13951009754708518548, .int .u64 16472876342353939154, .int .u64 17275323862435702243, .int .u64 1135362057144423861, .int .u64 2597628984639134821, .int .u64 3308224258029322869, .int .u64 5365058923640841347, .int .u64 6679025012923562964, .int .u64 8573033837759648693, .int .u64 10970295158949994411, .int .u64 12119686244451234320, .int .u64 12683024718118986047, .int .u64 13788192230050041572, .int .u64 14330467153632333762, .int .u64 15395433587784984357, .int .u64 489312712824947311, .int .u64 1452737877330783856, .int .u64 2861767655752347644, .int .u64 3322285676063803686, .int .u64 5560940570517711597, .int .u64 5996557281743188959, .int .u64 7280758554555802590, .int .u64 8532644243296465576, .int .u64 9350256976987008742, .int .u64 10552545826968843579, .int .u64 11727347734174303076, .int .u64 12113106623233404929, .int .u64 14000437183269869457, .int .u64 14369950271660146224, .int .u64 15101387698204529176, .int .u64 15463397548674623760, .int .u64 17586052441742319658, .int .u64 1182934255886127544, .int .u64 1847814050463011016, .int .u64 2177327727835720531, .int .u64 2830643537854262169, .int .u64 3796741975233480872, .int .u64 4115178125766777443, .int .u64 5681478168544905931, .int .u64 6601373596472566643, .int .u64 7507060721942968483, .int .u64 8399075790359081724, .int .u64 8693463985226723168, .int .u64 9568029438360202098, .int .u64 10144078919501101548, .int .u64 10430055236837252648, .int .u64 11840083180663258601, .int .u64 13761210420658862357, .int .u64 14299343276471374635, .int .u64 14566680578165727644, .int .u64 15097957966210449927, .int .u64 16922976911328602910, .int .u64 17689382322260857208, .int .u64 500013540394364858, .int .u64 748580250866718886, .int .u64 1242879168328830382, .int .u64 1977374033974150939, .int .u64 2944078676154940804, .int .u64 3659926193048069267, .int .u64 4368137639120453308, .int .u64 4836135668995329356, .int .u64 5532061633213252278, .int .u64 6448918945643986474, .int .u64 6902733635092675308, .int .u64 7801388544844847127] t frozen
      | o => o)).modify 3 (fun
      | .cells _ t frozen => .cells #[.int .u8 163, .int .u8 120, .int .u8 89, .int .u8 19, .int .u8 202, .int .u8 77, .int .u8 235, .int .u8 117, .int .u8 171, .int .u8 216, .int .u8 65, .int .u8 65, .int .u8 77, .int .u8 10, .int .u8 112, .int .u8 0, .int .u8 152, .int .u8 232, .int .u8 121, .int .u8 119, .int .u8 121, .int .u8 64, .int .u8 199, .int .u8 140, .int .u8 115, .int .u8 254, .int .u8 111, .int .u8 43, .int .u8 238, .int .u8 108, .int .u8 3, .int .u8 82] t frozen
      | o => o)).modify 1 (fun
      | .cells _ t frozen => .cells #[.int .u8 26, .int .u8 213, .int .u8 37, .int .u8 143, .int .u8 96, .int .u8 45, .int .u8 86, .int .u8 201, .int .u8 178, .int .u8 167, .int .u8 37, .int .u8 149, .int .u8 96, .int .u8 199, .int .u8 44, .int .u8 105, .int .u8 92, .int .u8 220, .int .u8 214, .int .u8 253, .int .u8 49, .int .u8 226, .int .u8 164, .int .u8 192, .int .u8 254, .int .u8 83, .int .u8 110, .int .u8 205, .int .u8 211, .int .u8 54, .int .u8 105, .int .u8 33] t frozen
      | o => o)).modify 2 (fun
      | .cells _ t frozen => .cells #[.int .u8 88, .int .u8 102, .int .u8 102, .int .u8 102, .int .u8 102, .int .u8 102, .int .u8 102, .int .u8 102, .int .u8 102, .int .u8 102, .int .u8 102, .int .u8 102, .int .u8 102, .int .u8 102, .int .u8 102, .int .u8 102, .int .u8 102, .int .u8 102, .int .u8 102, .int .u8 102, .int .u8 102, .int .u8 102, .int .u8 102, .int .u8 102, .int .u8 102, .int .u8 102, .int .u8 102, .int .u8 102, .int .u8 102, .int .u8 102, .int .u8 102, .int .u8 102] t frozen
      | o => o)).modify 0 (fun
      | .cells _ t frozen => .cells #[.int .u64 6346243789798364141, .int .u64 1503914060200516822, .int .u64 0, .int .u64 1152921504606846976] t frozen
      | o => o)) }
set_option maxRecDepth 100000 in
theorem contract (H : Type) (enc : TypeId × Value → H) (W : World) (base : Nat) (args : Array Value) (ds gs : List (DataW H)) (before : List MemPlace)
    (hval0 : ∀ (j : Nat) t v, Tryd.f5.params[j]? = some t → args[j]? = some v → Value.okWide Tryd.prog W .any base t v)
    (hW : DataW.Whole enc Tryd.prog Tryd.f5.params.toList Rows.signVerifiesSpec.vars false W args.toList ds gs before) (hsz : (DataW.weightsEach Tryd.prog (Tryd.f5.params.toList ++ (OpenSpec.ofChange Rows.signVerifiesSpec).bare.plain.varTypes Tryd.prog) (ds ++ gs)).all (· ≤ reachBytes) = true) (hL : laidMetH Tryd.prog Rows.signVerifiesRow.laid W) (hsh : W.ShapedOpen Tryd.prog) :
    Calls Tryd.prog 5 args W fun e W' => ∃ v, e = .returned v ∧ Rows.signVerifiesSpec.post enc Tryd.prog Tryd.f5 false true false false W args v W' := by
  have hval : ∀ (j : Nat) t v, Tryd.f5.params[j]? = some t → args[j]? = some v → Value.okWide Tryd.prog W .any base t v := hval0
  have hW' := hW
  obtain ⟨p, q, hA0, hV, rfl, hfz, hnd⟩ := hW
  have hA : DataW.TrodAll enc Tryd.prog W 0 (fun _ => true) true Tryd.f5.params.toList args.toList ds p := hA0
  rw [Tryd.params5] at hA hval
  obtain ⟨v0, vs0, d0, ds0, p0, q0, hargs, rfl, rfl, h0, r0⟩ := trodAll_cons hA
  obtain ⟨v1, vs1, d1, ds1, p1, q1, rfl, rfl, rfl, h1, r1⟩ := trodAll_cons r0
  obtain ⟨v2, vs2, d2, ds2, p2, q2, rfl, rfl, rfl, h2, r2⟩ := trodAll_cons r1
  obtain ⟨rfl, rfl, rfl⟩ := trodAll_nil r2
  obtain rfl : args = #[v0, v1, v2] := by cases args; simp_all
  obtain ⟨rfl, rfl⟩ := trodVars_none hV
  obtain ⟨bs0, rfl, rfl, rfl, w0⟩ := open_arr8 Tryd.underlying22 Tryd.underlying5 (by kernel_rfl) (by kernel_rfl) (hval 0 22 v0 rfl rfl) h0
  obtain ⟨a1, n1, c1, rfl⟩ := okWide_slice Tryd.underlying25 (hval 1 25 v1 rfl rfl)
  have k1 := h1
  have lt1 : ∀ x ∈ p1, x.block < W.heap.size := by obtain ⟨m, hm⟩ := k1; exact DataW.trod_lt m _ _ _ hm
  obtain ⟨bs1, hr1, hn1, hc1⟩ : ∃ bs : List UInt8, RB W a1 bs ∧ Hid (n1 = bs.length) ∧ n1 ≤ c1 := by
    obtain ⟨fuel, hf⟩ := h1
    rcases open_ints Tryd.underlying25 Tryd.underlying5 (by kernel_rfl) hf with ⟨hcs, _⟩ | ⟨x, l, c, zs, hcs, _, hl, hm, hz, _, hcell, hwz⟩
    · simp [Value.cells] at hcs
      obtain ⟨rfl, rfl, rfl⟩ := hcs
      exact rb_of_row (zs := []) (.inl ⟨rfl, rfl, rfl, rfl⟩)
    · simp [Value.cells] at hcs
      obtain ⟨rfl, rfl, rfl⟩ := hcs
      exact rb_of_row (.inr ⟨_, rfl, hl, hm, by simpa using hz, hcell, hwz⟩)
  obtain ⟨bs2, rfl, rfl, rfl, w2⟩ := open_arr8 Tryd.underlying28 Tryd.underlying5 (by kernel_rfl) (by kernel_rfl) (hval 2 28 v2 rfl rfl) h2
  clear hA0 hval0
  refine (Go.Proofs.YtkfdclnaaphdgaaDoor.signVerifies_walk bs0 w0 a1 n1 c1 bs1 hr1 hn1 hc1 bs2 w2 (w := W) (table hL)).mono fun e W' ⟨he, bel⟩ => ?_
  subst he
  exact ⟨_, rfl, _, _, _, [], _, [], hW', trodAll_mk1 (shut_bool Tryd.underlying4 _), (trodAll_cons_mk (shut_arr8 Tryd.underlying22 Tryd.underlying5 (by kernel_rfl) (by kernel_rfl) bs0 w0) (trodAll_cons_mk (Below.trod laidOut (by kernel_rfl) (of_decide_eq_true (by kernel_rfl)) k1 bel lt1) (trodAll_cons_mk (shut_arr8 Tryd.underlying28 Tryd.underlying5 (by kernel_rfl) (by kernel_rfl) bs2 w2) trodAll_mk0))), rfl, bel.frame _, fun h => by cases h⟩

set_option maxRecDepth 100000 in
theorem laid_met (os : Os) : laidMet Tryd.prog Rows.signVerifiesRow.laid ((laidWorld os).forCall (fun _ _ => 0) ⟨#[], #[.agg #[.int .u8 0, .int .u8 0, .int .u8 0, .int .u8 0, .int .u8 0, .int .u8 0, .int .u8 0, .int .u8 0, .int .u8 0, .int .u8 0, .int .u8 0, .int .u8 0, .int .u8 0, .int .u8 0, .int .u8 0, .int .u8 0, .int .u8 0, .int .u8 0, .int .u8 0, .int .u8 0, .int .u8 0, .int .u8 0, .int .u8 0, .int .u8 0, .int .u8 0, .int .u8 0, .int .u8 0, .int .u8 0, .int .u8 0, .int .u8 0, .int .u8 0, .int .u8 0], .slice none 0 0, .agg (List.replicate 64 (Value.int .u8 0)).toArray], []⟩).memory :=
  laidMet_of_run' 8 (by kernel_rfl) (by kernel_rfl)
set_option maxRecDepth 100000 in
theorem reads (os : Os) {H : Type} (enc : TypeId × Value → H) : ∃ places, DataW.whole enc Tryd.prog ((laidWorld os).forCall (fun _ _ => 0) ⟨#[], #[.agg #[.int .u8 0, .int .u8 0, .int .u8 0, .int .u8 0, .int .u8 0, .int .u8 0, .int .u8 0, .int .u8 0, .int .u8 0, .int .u8 0, .int .u8 0, .int .u8 0, .int .u8 0, .int .u8 0, .int .u8 0, .int .u8 0, .int .u8 0, .int .u8 0, .int .u8 0, .int .u8 0, .int .u8 0, .int .u8 0, .int .u8 0, .int .u8 0, .int .u8 0, .int .u8 0, .int .u8 0, .int .u8 0, .int .u8 0, .int .u8 0, .int .u8 0, .int .u8 0], .slice none 0 0, .agg (List.replicate 64 (Value.int .u8 0)).toArray], []⟩).memory Tryd.f5.params.toList Rows.signVerifiesSpec.vars false (#[.agg #[.int .u8 0, .int .u8 0, .int .u8 0, .int .u8 0, .int .u8 0, .int .u8 0, .int .u8 0, .int .u8 0, .int .u8 0, .int .u8 0, .int .u8 0, .int .u8 0, .int .u8 0, .int .u8 0, .int .u8 0, .int .u8 0, .int .u8 0, .int .u8 0, .int .u8 0, .int .u8 0, .int .u8 0, .int .u8 0, .int .u8 0, .int .u8 0, .int .u8 0, .int .u8 0, .int .u8 0, .int .u8 0, .int .u8 0, .int .u8 0, .int .u8 0, .int .u8 0], .slice none 0 0, .agg (List.replicate 64 (Value.int .u8 0)).toArray] : Array Value).toList 8 = some ([.agg [.lit (.int .u8 0), .lit (.int .u8 0), .lit (.int .u8 0), .lit (.int .u8 0), .lit (.int .u8 0), .lit (.int .u8 0), .lit (.int .u8 0), .lit (.int .u8 0), .lit (.int .u8 0), .lit (.int .u8 0), .lit (.int .u8 0), .lit (.int .u8 0), .lit (.int .u8 0), .lit (.int .u8 0), .lit (.int .u8 0), .lit (.int .u8 0), .lit (.int .u8 0), .lit (.int .u8 0), .lit (.int .u8 0), .lit (.int .u8 0), .lit (.int .u8 0), .lit (.int .u8 0), .lit (.int .u8 0), .lit (.int .u8 0), .lit (.int .u8 0), .lit (.int .u8 0), .lit (.int .u8 0), .lit (.int .u8 0), .lit (.int .u8 0), .lit (.int .u8 0), .lit (.int .u8 0), .lit (.int .u8 0)], .nil, .agg (List.replicate 64 (.lit (.int .u8 0)))], [], places) :=
  ⟨[], by kernel_rfl⟩
set_option maxRecDepth 100000 in
theorem lifted (os : Os) (started : os.Started) (H : Type) (enc : TypeId × Value → H) (F : Stop.Interp) :
    ReturnsInHanded {} Tryd.checked os 5 .any ((OpenSpec.ofChange Rows.signVerifiesSpec).preRow enc Tryd.prog Tryd.f5 Rows.signVerifiesRow.domain false Rows.signVerifiesRow.laid) (((OpenSpec.ofChange Rows.signVerifiesSpec).at F).post enc Tryd.prog Tryd.f5 false true false false) := by
  obtain ⟨places, hx⟩ := reads os enc
  refine returnsInHanded_of_row (C := Tryd.checked) (s := OpenSpec.ofChange Rows.signVerifiesSpec) own started (by kernel_rfl) Tryd.func5
    (witness_row_at (enc := enc) (C := Tryd.checked) false (laidWorld os) #[.agg #[.int .u8 0, .int .u8 0, .int .u8 0, .int .u8 0, .int .u8 0, .int .u8 0, .int .u8 0, .int .u8 0, .int .u8 0, .int .u8 0, .int .u8 0, .int .u8 0, .int .u8 0, .int .u8 0, .int .u8 0, .int .u8 0, .int .u8 0, .int .u8 0, .int .u8 0, .int .u8 0, .int .u8 0, .int .u8 0, .int .u8 0, .int .u8 0, .int .u8 0, .int .u8 0, .int .u8 0, .int .u8 0, .int .u8 0, .int .u8 0, .int .u8 0, .int .u8 0], .slice none 0 0, .agg (List.replicate 64 (Value.int .u8 0)).toArray] rfl (by kernel_rfl) (by kernel_rfl) (by kernel_rfl)
      (OpenSpec.preRow_of_cond 8 hx (by kernel_rfl) (fun k hk => by cases hk) (by kernel_rfl) (laid_met os))) ?_
  intro W base args ds gs before hval hW _ _ hsz hL hsh _
  exact contract H enc W base args ds gs before hval hW hsz hL hsh
set_option maxRecDepth 100000 in
theorem said : Rows.SignVerifiesSaid :=
  OpenClaim.holds_of_cond 5 Tryd.f5 rfl rfl rfl rfl rfl rfl rfl ⟨rfl, rfl, rfl, rfl, rfl⟩ rfl rfl rfl rfl rfl (by kernel_rfl) Tryd.func5 (by kernel_rfl)
    (of_decide_eq_true (by kernel_rfl)) (by unfold Func.isWrapper; first | (rw [if_pos (by decide +kernel)]; kernel_rfl) | (rw [if_neg (by decide +kernel)]; exact ⟨rfl, rfl⟩))
    (fun os started H enc _ F => by rw [OpenClaim.pre_eq_preRow]; exact lifted os started H enc F)
theorem plain (f : FuncId) (fn : Func) (hf : Tryd.pinned.checked.prog.funcNamed "hustings/hustingslaw07.SignVerifies" = some f) (hfn : Tryd.pinned.checked.prog.funcs[f]? = some fn) :
    false = Tryd.pinned.checked.prog.looks [] ∧ ∀ (j : Nat) t, fn.params[j]? = some t → Tryd.pinned.checked.prog.wantsStandIn t = false := by
  obtain rfl : f = 5 := Option.some.inj ((show Tryd.prog.funcNamed "hustings/hustingslaw07.SignVerifies" = some 5 by kernel_rfl).symm.trans hf) |>.symm
  obtain rfl : fn = Tryd.f5 := (Option.some.inj (Tryd.func5.symm.trans hfn)).symm
  refine ⟨by kernel_rfl, fun j t ht => ?_⟩
  rw [Tryd.params5] at ht
  have hm : t ∈ [22, 25, 28] := by simpa using Array.mem_of_getElem? ht
  have all : ∀ t ∈ [22, 25, 28], Tryd.prog.wantsStandIn t = false := by
    intro t ht
    simp only [List.mem_cons, List.not_mem_nil, or_false] at ht
    rcases ht with rfl | rfl | rfl <;> kernel_rfl
  exact all t hm

/-- THE STATEMENT: the card -/
theorem proved : Rows.SignVerifiesCardSaid :=
  Claim7.holds_tied_plain_at .later [] _ _ _ _ said (fun _ h => by cases h) (by kernel_rfl) (fun _ h => by cases h) signVerifies_row_tie rfl ⟨rfl, rfl⟩ (by kernel_rfl) rfl plain (by kernel_rfl)
#print axioms proved
end Go.Proofs.YtkfdclnaaphdgaaDoor.signVerifies
