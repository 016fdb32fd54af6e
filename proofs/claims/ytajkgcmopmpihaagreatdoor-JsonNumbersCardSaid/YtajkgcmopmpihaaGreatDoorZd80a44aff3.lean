/- Texts put together: JqT JqU JqE JqM JfA JfV JqL. -/
import Derived.Test.YtajkgcmopmpihaaGreatDoorZ27e78829a0
import Derived.Test.YtajkgcmopmpihaaGreatDoorZ34aec9f78d
import Derived.Test.YtajkgcmopmpihaaGreatDoorZ289a413bb0
import Derived.Stop.LaidErr
import Derived.Lib.ItoaLen
import Derived.Test.YtajkgcmopmpihaaGreatDoorZ9ecfc66fe4
import Derived.Lib.SliceRun
import Derived.Test.YtajkgcmopmpihaaGreatDoorZedead9e398
namespace Go.Proofs.YtajkgcmopmpihaaGreatDoor
open Go.Lib
set_option linter.unusedVariables false

theorem nrm_ext : ∀ (t : JT) (mem : Bool), (nrmT mem t).ext = t.ext
  | .nil, _ => rfl
  | .cons k kd is n s l m r, mem => by simp only [nrmT, JT.ext, nrm_ext r mem]
theorem nrm_nil : ∀ (t : JT) (mem : Bool), (nrmT mem t).isNil = t.isNil
  | .nil, _ => rfl
  | .cons k kd is n s l m r, mem => rfl
theorem same_nrmT : ∀ (t u : JT) (mem : Bool), sameT mem t u = true → nrmT mem t = nrmT mem u
  | .nil, .nil, _, _ => rfl
  | .nil, .cons .., _, h => by simp [sameT] at h
  | .cons .., .nil, _, h => by simp [sameT] at h
  | .cons k kd is n s l m r, .cons k' kd' is' n' s' l' m' r', mem, h => by
    simp only [sameT, Bool.and_eq_true, Bool.or_eq_true, Bool.not_eq_true', beq_iff_eq] at h
    obtain ⟨⟨hk, ⟨h1, h2, h3, h4, h5, h6⟩, h7, h8⟩, h9⟩ := h
    have e1 := same_nrmT l l' false h7
    have e2 := same_nrmT m m' true h8
    have e3 := same_nrmT r r' mem h9
    simp only [nrmT, e1, e2, e3, h1, h2, h3, h4]
    cases mem with
    | false => rfl
    | true => rcases hk with hk | hk; cases hk; rw [hk]
theorem nrm_same : ∀ (t u : JT) (mem : Bool), nrmT mem t = nrmT mem u → sameT mem t u = true
  | .nil, .nil, _, _ => rfl
  | .nil, .cons .., _, h => by simp [nrmT] at h
  | .cons .., .nil, _, h => by simp [nrmT] at h
  | .cons k kd is n s l m r, .cons k' kd' is' n' s' l' m' r', mem, h => by
    simp only [nrmT, JT.cons.injEq] at h
    obtain ⟨hk, h1, h2, h3, h4, h5, h6, h7⟩ := h
    have e1 := nrm_same l l' false h5
    have e2 := nrm_same m m' true h6
    have e3 := nrm_same r r' mem h7
    have x1 : l.ext = l'.ext := by rw [← nrm_ext l false, h5, nrm_ext]
    have x2 : m.ext = m'.ext := by rw [← nrm_ext m true, h6, nrm_ext]
    simp only [sameT, e1, e2, e3, h1, h2, h3, h4, x1, x2, beq_self_eq_true, Bool.and_self, Bool.and_true, Bool.or_eq_true, Bool.not_eq_true', beq_iff_eq]
    cases mem with
    | false => exact .inl rfl
    | true => exact .inr (by simpa using hk)
theorem same_nrm {a b : Jv} : sameV a b = true ↔ nrmV a = nrmV b := by
  constructor
  · intro h
    simp only [sameV, headB, Bool.and_eq_true, beq_iff_eq] at h
    obtain ⟨⟨h1, h2, h3, h4, h5, h6⟩, h7, h8⟩ := h
    unfold nrmV
    rw [h1, h2, h3, h4, same_nrmT _ _ _ h7, same_nrmT _ _ _ h8]
  · intro h
    unfold nrmV at h
    injection h with h1 h2 h3 h4 h5 h6
    have x1 : a.l.ext = b.l.ext := by rw [← nrm_ext a.l false, h5, nrm_ext]
    have x2 : a.m.ext = b.m.ext := by rw [← nrm_ext a.m true, h6, nrm_ext]
    simp only [sameV, headB, h1, h2, h3, h4, x1, x2, nrm_same _ _ _ h5, nrm_same _ _ _ h6, beq_self_eq_true, Bool.and_self]
theorem wrK_like (k k' b : List UInt8) : ∀ {p p' : Option (List UInt8)}, p.isSome = p'.isSome → wrK false p k b = wrK false p' k' b
  | none, none, _ => rfl
  | some _, some _, _ => rfl
theorem wrB_like {v v' : Jv} {deep : Nat} {wl wl' wm wm' : List UInt8 → Res} (h0 : v.kd = v'.kd) (h1 : v.is = v'.is) (h2 : v.n = v'.n) (h3 : v.s = v'.s) (h4 : v.l.isNil = v'.l.isNil) (h5 : v.m.isNil = v'.m.isNil) (hl : ∀ b, wl b = wl' b) (hm : ∀ b, wm b = wm' b) (b : List UInt8) : wrB v deep wl wm b = wrB v' deep wl' wm' b := by
  have e1 : wl = wl' := funext hl
  have e2 : wm = wm' := funext hm
  unfold wrB Jv.bare
  rw [h0, h1, h2, h3, h4, h5, e1, e2]
theorem wrF_nrm : ∀ (t : JT), (∀ (deep : Nat) (p : Option (List UInt8)) (b : List UInt8), wrF true (nrmT true t) deep p b = wrF true t deep p b) ∧ (∀ (deep : Nat) (p p' : Option (List UInt8)) (b : List UInt8), p.isSome = p'.isSome → wrF false (nrmT false t) deep p b = wrF false t deep p' b)
  | .nil => ⟨fun _ _ _ => rfl, fun _ _ _ _ _ => rfl⟩
  | .cons k kd is n s l m r => by
    have hl := (wrF_nrm l).2
    have hm := (wrF_nrm m).1
    have hr := wrF_nrm r
    have hB : ∀ (deep : Nat) (b : List UInt8), wrB ⟨kd, is, n, s, nrmT false l, nrmT true m⟩ deep (fun b => wrF false (nrmT false l) (deep + 1) none b) (fun b => wrF true (nrmT true m) (deep + 1) none b) b = wrB ⟨kd, is, n, s, l, m⟩ deep (fun b => wrF false l (deep + 1) none b) (fun b => wrF true m (deep + 1) none b) b :=
      fun deep b => by
        refine wrB_like (v := ⟨kd, is, n, s, nrmT false l, nrmT true m⟩) (v' := ⟨kd, is, n, s, l, m⟩) rfl rfl rfl rfl (nrm_nil l false) (nrm_nil m true) ?_ ?_ b
        · intro b; exact hl _ _ _ b rfl
        · intro b; exact hm _ _ b
    refine ⟨fun deep p b => ?_, fun deep p p' b h => ?_⟩
    · show (wrK true p k b).then _ = (wrK true p k b).then _
      congr 1
      funext b1
      rw [hB]
      congr 1
      funext b2
      exact hr.1 _ _ _
    · show (wrK false p [] b).then _ = (wrK false p' k b).then _
      rw [wrK_like [] k b h]
      congr 1
      funext b1
      rw [hB]
      congr 1
      funext b2
      exact hr.2 _ _ _ _ rfl
theorem wrV_nrm (v : Jv) (deep : Nat) (b : List UInt8) : wrV (nrmV v) deep b = wrV v deep b := by
  unfold wrV
  refine wrB_like (v := nrmV v) (v' := v) rfl rfl rfl rfl (nrm_nil v.l false) (nrm_nil v.m true) ?_ ?_ b
  · intro b; exact (wrF_nrm v.l).2 _ _ _ b rfl
  · intro b; exact (wrF_nrm v.m).1 _ _ b
theorem canF_nrm (v : Jv) : canF (nrmV v) = canF v := by unfold canF; rw [wrV_nrm]
/-- Texts tell values. -/
theorem can_tells {a b : Jv} {s t : List UInt8} (ha : canF a = (s, 0)) (hb : canF b = (t, 0)) : (s == t) = sameV a b := by
  cases hs : sameV a b with
  | true =>
    have e := same_nrm.1 hs
    have : (s, (0 : Int)) = (t, 0) := by rw [← ha, ← hb, ← canF_nrm a, ← canF_nrm b, e]
    injection this with this
    rw [this]; simp
  | false =>
    rw [beq_eq_false_iff_ne]
    intro e
    subst e
    have h1 := par_can ha
    rw [par_can hb] at h1
    injection h1 with h1 _
    rw [same_nrm.2 h1.symm] at hs
    cases hs
end Go.Proofs.YtajkgcmopmpihaaGreatDoor
namespace Go.Proofs.YtajkgcmopmpihaaGreatDoor
open Go.ChangeShapes Go.WideShapes Go.ChangeAt Go.RowKit Go.IntWalk
set_option linter.unusedVariables false
set_option maxRecDepth 100000

/-- What the row lists: the powers of ten, strconv's two variables. -/
def TabP (w : World) : Prop := TabJ w ∧ ErrC w
theorem TabP.below {w w' : World} (h : TabP w) (b : Below w.heap.size w w') : TabP w' := ⟨h.1.below b, h.2.later b⟩
theorem great9_ok {w : World} {v : Jv} {A B : Option Addr} {nl cl nm cm : Nat} (h : VOk w v A B nl cl nm cm) :
    Calls Tryz.prog 16 #[.agg #[.int .i64 v.kd, .bool v.is, .int .i64 v.n, .string ⟨v.s.toArray⟩, .slice A nl cl, .slice B nm cm]] w (GrtPost w) :=
  great_calls v A B nl cl nm cm w h.1 h.2.1 h.2.2.1 h.2.2.2.1 h.2.2.2.2
set_option maxHeartbeats 8000000 in
theorem jsonTells_walk (a0 : Jv) (A0 B0 : Option Addr) (nl0 cl0 nm0 cm0 : Nat) {w : World} (hr0 : VOk w a0 A0 B0 nl0 cl0 nm0 cm0) (a1 : Jv) (A1 B1 : Option Addr) (nl1 cl1 nm1 cm1 : Nat) (hr1 : VOk w a1 A1 B1 nl1 cl1 nm1 cm1) (hT : TabP w) :
    Calls Tryz.prog 6 #[.agg #[.int .i64 a0.kd, .bool a0.is, .int .i64 a0.n, .string ⟨a0.s.toArray⟩, .slice A0 nl0 cl0, .slice B0 nm0 cm0], .agg #[.int .i64 a1.kd, .bool a1.is, .int .i64 a1.n, .string ⟨a1.s.toArray⟩, .slice A1 nl1 cl1, .slice B1 nm1 cm1]] w fun e w' => e = .returned (.bool true) ∧ Below w.heap.size w w' := by
  have b0 : Below w.heap.size w ((w.alloc (.cells #[.int .i64 a0.kd, .bool a0.is, .int .i64 a0.n, .string ⟨a0.s.toArray⟩, .slice A0 nl0 cl0, .slice B0 nm0 cm0] 25)).alloc (.cells #[.int .i64 a1.kd, .bool a1.is, .int .i64 a1.n, .string ⟨a1.s.toArray⟩, .slice A1 nl1 cl1, .slice B1 nm1 cm1] 25)) := ((Below.refl _ _).alloc (Nat.le_refl _) _).alloc (by simp) _
  have z0 : Blk ((w.alloc (.cells #[.int .i64 a0.kd, .bool a0.is, .int .i64 a0.n, .string ⟨a0.s.toArray⟩, .slice A0 nl0 cl0, .slice B0 nm0 cm0] 25)).alloc (.cells #[.int .i64 a1.kd, .bool a1.is, .int .i64 a1.n, .string ⟨a1.s.toArray⟩, .slice A1 nl1 cl1, .slice B1 nm1 cm1] 25)) w.heap.size 25 [.int .i64 a0.kd, .bool a0.is, .int .i64 a0.n, .string ⟨a0.s.toArray⟩, .slice A0 nl0 cl0, .slice B0 nm0 cm0] := (Blk.new w _ _).later ((Below.refl _ _).alloc (Nat.le_refl _) _)
  have z1 : Blk ((w.alloc (.cells #[.int .i64 a0.kd, .bool a0.is, .int .i64 a0.n, .string ⟨a0.s.toArray⟩, .slice A0 nl0 cl0, .slice B0 nm0 cm0] 25)).alloc (.cells #[.int .i64 a1.kd, .bool a1.is, .int .i64 a1.n, .string ⟨a1.s.toArray⟩, .slice A1 nl1 cl1, .slice B1 nm1 cm1] 25)) (w.heap.size + 1) 25 [.int .i64 a1.kd, .bool a1.is, .int .i64 a1.n, .string ⟨a1.s.toArray⟩, .slice A1 nl1 cl1, .slice B1 nm1 cm1] := by
    have := Blk.new (w.alloc (.cells #[.int .i64 a0.kd, .bool a0.is, .int .i64 a0.n, .string ⟨a0.s.toArray⟩, .slice A0 nl0 cl0, .slice B0 nm0 cm0] 25)) [.int .i64 a1.kd, .bool a1.is, .int .i64 a1.n, .string ⟨a1.s.toArray⟩, .slice A1 nl1 cl1, .slice B1 nm1 cm1] 25
    simpa using this
  have HV := Lib.hid (And.intro hr0 (And.intro hr1 hT))
  have H0 := Lib.hid (And.intro b0 (And.intro z0 z1))
  obtain ⟨cb, ce, hc⟩ : ∃ cb ce, canF a0 = (cb, ce) := ⟨_, _, rfl⟩
  obtain ⟨db, de, hd⟩ : ∃ db de, canF a1 = (db, de) := ⟨_, _, rfl⟩
  have HC := Lib.hid (And.intro hc hd)
  clear hr0 hr1 hT b0 z0 z1 hc hd
  go_enter Tryz.func6, Tryz.ntmps6
  go_upto_region 1 with fail
  refine wp_gen (fun W => Below w.heap.size w W ∧ Blk W w.heap.size 25 [.int .i64 a0.kd, .bool a0.is, .int .i64 a0.n, .string ⟨a0.s.toArray⟩, .slice A0 nl0 cl0, .slice B0 nm0 cm0] ∧ Blk W (w.heap.size + 1) 25 [.int .i64 a1.kd, .bool a1.is, .int .i64 a1.n, .string ⟨a1.s.toArray⟩, .slice A1 nl1 cl1, .slice B1 nm1 cm1]) H0.out ?_
  clear H0
  rintro W0 hW0
  have H0 := Lib.hid hW0
  clear hW0
  go_wp2_with fail
  refine (alive9_calls W0 (HV.out.2.2.below H0.out.1).2 (HV.out.2.2.below H0.out.1).1).mono ?_
  rintro e w1 ⟨rfl, b1⟩
  have H1 := Lib.hid (And.intro (H0.out.1.then_ b1) (And.intro (H0.out.2.1.later b1) (H0.out.2.2.later b1)))
  clear b1 H0
  obtain ⟨d0, d1, d2, d3, d4, d5, _⟩ := cells6s H1.out.2.1
  go_wp2_with fail
  refine (great9_ok (HV.out.1.below H1.out.1)).mono ?_
  rintro e w2 ⟨⟨gr, rfl⟩, b2⟩
  have H2 := Lib.hid (And.intro (H1.out.1.then_ b2) (And.intro (H1.out.2.1.later b2) (H1.out.2.2.later b2)))
  clear b2 H1 d0 d1 d2 d3 d4 d5
  cases gr with
  | true =>
    go_wp2_with fail
    go_ret
    exact ⟨rfl, H2.out.1⟩
  | false =>
    obtain ⟨d0, d1, d2, d3, d4, d5, _⟩ := cells6s H2.out.2.2
    go_wp2_with fail
    refine (great9_ok (HV.out.2.1.below H2.out.1)).mono ?_
    rintro e w3 ⟨⟨gr, rfl⟩, b3⟩
    have H3 := Lib.hid (And.intro (H2.out.1.then_ b3) (And.intro (H2.out.2.1.later b3) (H2.out.2.2.later b3)))
    clear b3 H2 d0 d1 d2 d3 d4 d5
    cases gr with
    | true =>
      go_wp2_with fail
      go_ret
      exact ⟨rfl, H3.out.1⟩
    | false =>
      obtain ⟨d0, d1, d2, d3, d4, d5, _⟩ := cells6s H3.out.2.1
      go_wp2_with fail
      refine (canon_at (HV.out.1.below H3.out.1) (HV.out.2.2.below H3.out.1).1 HC.out.1).mono ?_
      rintro e w4 ⟨rfl, b4⟩
      have H4 := Lib.hid (And.intro (H3.out.1.then_ b4) (And.intro (H3.out.2.1.later b4) (H3.out.2.2.later b4)))
      clear b4 H3 d0 d1 d2 d3 d4 d5
      obtain ⟨d0, d1, d2, d3, d4, d5, _⟩ := cells6s H4.out.2.2
      go_wp2_with fail
      refine (canon_at (HV.out.2.1.below H4.out.1) (HV.out.2.2.below H4.out.1).1 HC.out.2).mono ?_
      rintro e w5 ⟨rfl, b5⟩
      have H5 := Lib.hid (And.intro (H4.out.1.then_ b5) (And.intro (H4.out.2.1.later b5) (H4.out.2.2.later b5)))
      clear b5 H4 d0 d1 d2 d3 d4 d5
      by_cases hce : ce = 0
      · by_cases hde : de = 0
        · subst hce hde
          obtain ⟨q, hq⟩ : ∃ q, sameV a0 a1 = q := ⟨_, rfl⟩
          have hs := can_tells HC.out.1 HC.out.2
          rw [hq] at hs
          have hs2 : ((⟨cb.toArray⟩ : ByteArray) == ⟨db.toArray⟩) = q := by
            rw [← hs]
            show (cb.toArray == db.toArray) = (cb == db)
            simp
          have HQ := Lib.hid hq
          clear hq
          obtain ⟨d0, d1, d2, d3, d4, d5, _⟩ := cells6s H5.out.2.1
          obtain ⟨e0, e1, e2, e3, e4, e5, _⟩ := cells6s H5.out.2.2
          go_wp2_with fail
          refine (same_calls a0.bulk a0 a1 A0 B0 A1 B1 nl0 cl0 nm0 cm0 nl1 cl1 nm1 cm1 w5 (Nat.le_refl _) (HV.out.1.below H5.out.1) (HV.out.2.1.below H5.out.1)).mono ?_
          rintro e w6 ⟨rfl, b6⟩
          have H6 := Lib.hid (H5.out.1.then_ b6)
          clear b6 d0 d1 d2 d3 d4 d5 e0 e1 e2 e3 e4 e5
          rw [HQ.out]
          cases q <;> (go_wp2_with fail; go_ret; exact ⟨rfl, H6.out⟩)
        · subst hce
          have h1 : (de != 0) = true := by simpa using hde
          go_wp2_with fail
          go_ret
          exact ⟨rfl, H5.out.1⟩
      · have h1 : (ce != 0) = true := by simpa using hce
        go_wp2_with fail
        go_ret
        exact ⟨rfl, H5.out.1⟩
end Go.Proofs.YtajkgcmopmpihaaGreatDoor
namespace Go.Proofs.YtajkgcmopmpihaaGreatDoor
open Go.ChangeShapes Go.WideShapes Go.ChangeAt Go.RowKit Go.IntWalk
set_option linter.unusedVariables false
set_option maxRecDepth 100000

def synD : DataW Unit := .iface "*errors.errorString" (.ptr (.agg [.lit (.string [105, 110, 118, 97, 108, 105, 100, 32, 115, 121, 110, 116, 97, 120])]))
def rngD : DataW Unit := .iface "*errors.errorString" (.ptr (.agg [.lit (.string [118, 97, 108, 117, 101, 32, 111, 117, 116, 32, 111, 102, 32, 114, 97, 110, 103, 101])]))
theorem gSyn : Tryz.prog.globalNamed "strconv.ErrSyntax" = some 1 := by kernel_rfl
theorem gSynT : (Tryz.prog.globals[1]?).map (·.type) = some 110 := by kernel_rfl
theorem gRng : Tryz.prog.globalNamed "strconv.ErrRange" = some 2 := by kernel_rfl
theorem gRngT : (Tryz.prog.globals[2]?).map (·.type) = some 110 := by kernel_rfl
theorem errCells : Tryz.prog.cellsOf 186 = 1 := by kernel_rfl
theorem strCells : Tryz.prog.cellsOf 9 = 1 := by kernel_rfl
theorem starErr : "*" ++ "errors.errorString" = "*errors.errorString" := by decide
theorem errRow (u : TypeId) (h : Tryz.prog.typeName? 3 u = some "*errors.errorString") : u = 184 :=
  typeName_ptr_named (nm := "errors.errorString") (by rw [starErr]; kernel_rfl) (by kernel_rfl) (by decide) u (by rw [starErr]; exact h)
theorem errC_of_laid {W : World} (h1 : laidMet Tryz.prog [("strconv.ErrSyntax", synD)] W) (h2 : laidMet Tryz.prog [("strconv.ErrRange", rngD)] W) : ErrC W := by
  obtain ⟨a1, s1, v1, -, -, -⟩ := laid_sentinel h1 gSyn gSynT Tryz.underlying110 errRow Tryz.underlying184 Tryz.underlying186 rfl rfl Tryz.underlying9 errCells strCells
  obtain ⟨a2, s2, v2, -, -, -⟩ := laid_sentinel h2 gRng gRngT Tryz.underlying110 errRow Tryz.underlying184 Tryz.underlying186 rfl rfl Tryz.underlying9 errCells strCells
  have c1 := World.var?_cell gSyn v1 0
  have c2 := World.var?_cell gRng v2 0
  have c1' : W.cell? ⟨1, 0, none⟩ = some (.iface 184 (.pointer (some a1))) := by simpa using c1
  have c2' : W.cell? ⟨2, 0, none⟩ = some (.iface 184 (.pointer (some a2))) := by simpa using c2
  exact ⟨World.block_lt_of_cell? W _ c2', ⟨_, c1', .inr ⟨_, _, rfl⟩⟩, _, c2', .inr ⟨_, _, rfl⟩⟩
end Go.Proofs.YtajkgcmopmpihaaGreatDoor
namespace Go.Proofs.YtajkgcmopmpihaaGreatDoor
open Go.Lib
set_option linter.unusedVariables false

theorem parse_dot : ∀ (l r : List UInt8) (acc z : Nat), parseUint10 acc (l ++ 46 :: r) ≠ .ok z
  | [], r, acc, z => by rw [List.nil_append, parseUint10, if_neg (by decide)]; intro h; cases h
  | c :: l, r, acc, z => by
    rw [List.cons_append, parseUint10]
    split
    · split
      · intro h; cases h
      · split
        · intro h; cases h
        · exact parse_dot l r _ z
    · intro h; cases h
theorem mag_dot (l : List UInt8) (z : Nat) : parseMag (l ++ [46, 48]) ≠ .ok z := by
  unfold parseMag
  split
  · intro h; cases h
  · exact parse_dot l [48] 0 z
theorem atoi_dot (c : UInt8) (q : List UInt8) (z : Int) : atoiAll (c :: (q ++ [46, 48])) ≠ .ok z := by
  have h1 := mag_dot q
  have h2 := mag_dot (c :: q)
  unfold atoiAll
  dsimp only
  generalize hm : parseMag (if c.toNat = 43 ∨ c.toNat = 45 then q ++ [46, 48] else c :: (q ++ [46, 48])) = m
  cases m with
  | range => intro h; cases h
  | ok u =>
    split at hm
    · exact absurd hm (h1 u)
    · exact absurd hm (h2 u)
  | _ => intro h; cases h
theorem itoa_num (n : Int) : ∀ c ∈ itoa n, numB c = true := by
  by_cases hn : n < 0
  · rw [show itoa n = 45 :: decDigits n.natAbs by unfold itoa; rw [if_pos hn]]
    intro c hc
    rcases List.mem_cons.1 hc with rfl | hc
    · rfl
    · exact dig_num c (dec_digs _ c hc)
  · rw [show itoa n = decDigits n.toNat by unfold itoa; rw [if_neg hn]]
    exact fun c hc => dig_num c (dec_digs _ c hc)
theorem itoa_cons (n : Int) (h0 : -9007199254740991 ≤ n) (h1 : n ≤ 9007199254740991) : ∃ c q, itoa n = c :: q ∧ (c = 45 ∨ digB c = true) := (numP_itoa n h0 h1 [] (fun c h => by cases h)).2
theorem take_num {l : List UInt8} (h : ∀ c ∈ l, numB c = true) : l.takeWhile numB = l := by
  have := (take_all (p := numB) l [] h (fun c h => by cases h)).1
  rwa [List.append_nil] at this
theorem dec_cons (u : Nat) : ∃ c q, decDigits u = c :: q ∧ digB c = true := by
  cases h : decDigits u with
  | nil => exact absurd h (dec_ne u)
  | cons c q => exact ⟨c, q, rfl, dec_digs u c (by rw [h]; simp)⟩
theorem sign_dig {c : UInt8} (q : List UInt8) (h : digB c = true) : signF (c :: q) = c :: q := by
  unfold signF
  dsimp only
  rw [if_neg (fun e => (dig_ne c h).1 (by rw [e]; rfl))]
theorem whole_dot1 (u : Nat) : (if ((decDigits u ++ [46, 48]).takeWhile digB).isEmpty || (decide (1 < ((decDigits u ++ [46, 48]).takeWhile digB).length) && (decDigits u ++ [46, 48]).head? == some 48) then (false, false) else fracF ((decDigits u ++ [46, 48]).dropWhile digB)) = (true, true) := by
  obtain ⟨h1, h2⟩ := take_all (p := digB) (decDigits u) [46, 48] (dec_digs u) (fun c h => by injection h with h; rw [← h]; rfl)
  obtain ⟨c, q, hcq, _⟩ := dec_cons u
  rw [h1, h2]
  have h3 : (decDigits u).isEmpty = false := by rw [hcq]; rfl
  have h5 : (decDigits u ++ [46, 48]).head? = (decDigits u).head? := by rw [hcq]; rfl
  rw [h3, h5]
  by_cases h10 : u < 10
  · rw [dec_small u h10]; rfl
  · have h4 : ((decDigits u).head? == some 48) = false := by rw [beq_eq_false_iff_ne]; exact dec_head u (by omega)
    rw [h4]
    simp
    rfl
theorem whole_dot (n : Int) : wholeF (itoa n ++ [46, 48]) = (true, true) := by
  by_cases hn : n < 0
  · rw [show itoa n = 45 :: decDigits n.natAbs by unfold itoa; rw [if_pos hn]]
    exact whole_dot1 _
  · rw [show itoa n = decDigits n.toNat by unfold itoa; rw [if_neg hn]]
    obtain ⟨c, q, hcq, hd⟩ := dec_cons n.toNat
    unfold wholeF
    rw [show signF (decDigits n.toNat ++ [46, 48]) = decDigits n.toNat ++ [46, 48] by rw [hcq]; exact sign_dig _ hd]
    exact whole_dot1 _
theorem numP_dot (n : Int) (h0 : -9007199254740991 ≤ n) (h1 : n ≤ 9007199254740991) : numP (itoa n ++ [46, 48]) = .error 7 := by
  have hall : ∀ c ∈ itoa n ++ [46, 48], numB c = true := fun c hc => by
    rcases List.mem_append.1 hc with h | h
    · exact itoa_num n c h
    · simp only [List.mem_cons, List.not_mem_nil, or_false] at h
      rcases h with rfl | rfl <;> rfl
  unfold numP
  rw [take_num hall, whole_dot]
  obtain ⟨c, q, hcq, _⟩ := itoa_cons n h0 h1
  have ha : ∀ z, atoiAll (itoa n ++ [46, 48]) ≠ .ok z := fun z => by rw [hcq]; exact atoi_dot c q z
  rw [if_neg (by decide)]
  cases hx : atoiAll (itoa n ++ [46, 48]) with
  | ok z => exact absurd hx (ha z)
  | range => rfl
  | _ => rfl
theorem whole_zero (n : Int) : (wholeF (48 :: itoa n)).1 = false := by
  unfold wholeF
  rw [sign_dig _ (show digB 48 = true from rfl)]
  by_cases hn : n < 0
  · rw [show itoa n = 45 :: decDigits n.natAbs by unfold itoa; rw [if_pos hn]]
    rfl
  · rw [show itoa n = decDigits n.toNat by unfold itoa; rw [if_neg hn]]
    have h1 : (48 :: decDigits n.toNat).takeWhile digB = 48 :: decDigits n.toNat := by
      have := (take_all (p := digB) (48 :: decDigits n.toNat) [] (fun c hc => by
        rcases List.mem_cons.1 hc with rfl | hc
        · rfl
        · exact dec_digs _ c hc) (fun c h => by cases h)).1
      rwa [List.append_nil] at this
    obtain ⟨c, q, hcq, _⟩ := dec_cons n.toNat
    dsimp only
    rw [h1, hcq]
    rfl
theorem numP_zero (n : Int) : numP (48 :: itoa n) = .error 4 := by
  have hall : ∀ c ∈ 48 :: itoa n, numB c = true := fun c hc => by
    rcases List.mem_cons.1 hc with rfl | hc
    · rfl
    · exact itoa_num n c hc
  unfold numP
  rw [take_num hall, if_pos (whole_zero n)]
theorem itoaN_le (n : Int) (h0 : -9007199254740991 ≤ n) (h1 : n ≤ 9007199254740991) : (itoa n).length ≤ 21 := itoa_length_le n (by omega) (by omega)
theorem par_num {c : UInt8} {q : List UInt8} (h : c = 45 ∨ digB c = true) (hl : (c :: q).length ≤ 65536) : parF (c :: q) = (match numP (c :: q) with | .error e => (nullJ, e) | .ok p => if (skipB p.2).isEmpty then (p.1, 0) else (nullJ, 4)) := by
  unfold parF
  rw [if_neg (by omega), pV_eq, skip_no (pC_num 0 c q h).2.1]
  dsimp only
  rw [(pC_num 0 c q h).1]
  rfl
def numJ (n : Int) : Jv := ⟨2, false, n, [], .nil, .nil⟩
theorem par_dot (n : Int) (h0 : -9007199254740991 ≤ n) (h1 : n ≤ 9007199254740991) : parF (itoa n ++ [46, 48]) = (nullJ, 7) := by
  obtain ⟨c, q, hcq, hc⟩ := itoa_cons n h0 h1
  have hl := itoaN_le n h0 h1
  have hp := numP_dot n h0 h1
  rw [hcq] at hl hp ⊢
  rw [List.cons_append] at hp ⊢
  rw [par_num hc (by simp at hl ⊢; omega), hp]
theorem par_zero (n : Int) (h0 : -9007199254740991 ≤ n) (h1 : n ≤ 9007199254740991) : parF (48 :: itoa n) = (nullJ, 4) := by
  have hl := itoaN_le n h0 h1
  rw [par_num (.inr rfl) (by simp; omega), numP_zero]
theorem par_sp (n : Int) (h0 : -9007199254740991 ≤ n) (h1 : n ≤ 9007199254740991) : parF (32 :: (itoa n ++ [32])) = (numJ n, 0) := by
  obtain ⟨c, q, hcq, hc⟩ := itoa_cons n h0 h1
  have hl := itoaN_le n h0 h1
  have hp := (numP_itoa n h0 h1 [32] (fun c h => by injection h with h; rw [← h]; rfl)).1
  rw [hcq] at hl hp ⊢
  rw [List.cons_append] at hp ⊢
  have hs : skipB (32 :: c :: (q ++ [32])) = c :: (q ++ [32]) := by
    have : skipB (32 :: c :: (q ++ [32])) = skipB (c :: (q ++ [32])) := rfl
    rw [this, skip_no (pC_num 0 c (q ++ [32]) hc).2.1]
  unfold parF
  rw [if_neg (by simp at hl ⊢; omega), pV_eq, hs]
  dsimp only
  rw [(pC_num 0 c (q ++ [32]) hc).1, hp]
  rfl
theorem lng_of {b : List UInt8} (h : b.length ≤ 65536) : lng b = .ok b := by unfold lng; rw [if_pos h]
theorem num_bare (n : Int) (h0 : -9007199254740991 ≤ n) (h1 : n ≤ 9007199254740991) : (numJ n).bare = true := by
  show (⟨2, false, n, [], .nil, .nil⟩ : Jv).bare = true
  simp [Jv.bare, JT.isNil]; omega
theorem num_bare_no (n : Int) (h : n < -9007199254740991 ∨ 9007199254740991 < n) : (numJ n).bare = false := by
  show (⟨2, false, n, [], .nil, .nil⟩ : Jv).bare = false
  simp [Jv.bare, JT.isNil]; omega
theorem wr_n {n : Int} {deep : Nat} {b : List UInt8} (h : (numJ n).bare = true) : wrV (numJ n) deep b = lng (b ++ itoa n) := by
  unfold wrV wrB
  rw [h, show (numJ n).kd = 2 from rfl]
  simp [numJ]
theorem can_num (n : Int) (h0 : -9007199254740991 ≤ n) (h1 : n ≤ 9007199254740991) : canF (numJ n) = (itoa n, 0) := by
  have hl := itoaN_le n h0 h1
  unfold canF
  rw [wr_n (num_bare n h0 h1), List.nil_append, lng_of (by omega)]
theorem can_num_no (n : Int) (h : n < -9007199254740991 ∨ 9007199254740991 < n) : canF (numJ n) = ([], 1) := by
  have : wrV (numJ n) 0 [] = .error 1 := by
    unfold wrV wrB
    rw [num_bare_no n h]; rfl
  unfold canF
  rw [this]
def twoJ (x : Bool) (n : Int) : Jv := lstV (.cons [] 1 x 0 [] .nil .nil (.cons [] 2 false n [] .nil .nil .nil))
def boolT (x : Bool) : List UInt8 := if x then [116, 114, 117, 101] else [102, 97, 108, 115, 101]
theorem wr_bool (x : Bool) (deep : Nat) (b : List UInt8) (hb : b.length ≤ 60000) : wrV ⟨1, x, 0, [], .nil, .nil⟩ deep b = .ok (b ++ boolT x) := by
  have h : (⟨1, x, 0, [], .nil, .nil⟩ : Jv).bare = true := by cases x <;> rfl
  unfold wrV wrB
  rw [h, show (⟨1, x, 0, [], .nil, .nil⟩ : Jv).kd = 1 from rfl]
  have e : lng (b ++ boolT x) = .ok (b ++ boolT x) := lng_of (by cases x <;> simp [boolT] <;> omega)
  simpa [boolT] using e
theorem wr_num (n : Int) (h0 : -9007199254740991 ≤ n) (h1 : n ≤ 9007199254740991) (deep : Nat) (b : List UInt8) (hb : b.length ≤ 60000) : wrV (numJ n) deep b = .ok (b ++ itoa n) := by
  have hl := itoaN_le n h0 h1
  rw [wr_n (num_bare n h0 h1), lng_of (by rw [List.length_append]; omega)]
theorem can_two (x : Bool) (n : Int) (h0 : -9007199254740991 ≤ n) (h1 : n ≤ 9007199254740991) : canF (twoJ x n) = (91 :: (boolT x ++ 44 :: (itoa n ++ [93])), 0) := by
  have hl := itoaN_le n h0 h1
  have hx : (boolT x).length ≤ 5 := by cases x <;> decide
  have e1 : wrF false (.cons [] 2 false n [] .nil .nil .nil) 1 (some []) ([91] ++ boolT x) = .ok ([91] ++ boolT x ++ [44] ++ itoa n) := by
    show ((wrK false (some []) [] ([91] ++ boolT x)).then fun b => (wrV (numJ n) 1 b).then fun b => .ok b) = _
    have hk : wrK false (some []) [] ([91] ++ boolT x) = .ok ([91] ++ boolT x ++ [44]) := by
      show ((lng ([91] ++ boolT x ++ [44])).then fun b => .ok b).then (fun b => .ok b) = _
      rw [lng_of (by simp; omega)]; rfl
    rw [hk]
    show (wrV (numJ n) 1 ([91] ++ boolT x ++ [44])).then (fun b => .ok b) = _
    rw [wr_num n h0 h1 1 _ (by simp; omega)]; rfl
  have e2 : wrF false (.cons [] 1 x 0 [] .nil .nil (.cons [] 2 false n [] .nil .nil .nil)) 1 none [91] = .ok ([91] ++ boolT x ++ [44] ++ itoa n) := by
    show (wrV ⟨1, x, 0, [], .nil, .nil⟩ 1 [91]).then (fun b => wrF false (.cons [] 2 false n [] .nil .nil .nil) 1 (some []) b) = _
    rw [wr_bool x 1 [91] (by decide)]
    exact e1
  have : wrV (twoJ x n) 0 [] = .ok ([91] ++ boolT x ++ [44] ++ itoa n ++ [93]) := by
    have hb : (twoJ x n).bare = true := rfl
    unfold wrV wrB
    rw [hb, show (twoJ x n).kd = 4 from rfl, if_neg (by decide), if_neg (by decide), if_neg (by decide), if_neg (by decide), if_neg (by decide), if_neg (by decide), if_pos rfl]
    show (wrF false (.cons [] 1 x 0 [] .nil .nil (.cons [] 2 false n [] .nil .nil .nil)) 1 none [91]).then (fun b => lng (b ++ [93])) = _
    rw [e2]
    exact lng_of (by simp; omega)
  unfold canF
  rw [this]
  simp
end Go.Proofs.YtajkgcmopmpihaaGreatDoor
namespace Go.Proofs.YtajkgcmopmpihaaGreatDoor
open Go.ChangeShapes Go.WideShapes Go.ChangeAt Go.RowKit Go.IntWalk
set_option linter.unusedVariables false
set_option maxRecDepth 100000

theorem newCA_len {mem : Bool} {k : List UInt8} {e : List Value} (h : e.length = 6) : (newC mem k e).length = stM mem := by
  cases mem with
  | true => simp [newC, h, stM, kwM]
  | false => simp [newC, h, stM, kwM]
theorem RowE.shift {P : Nat → Prop} {mem : Bool} {w : World} {ds : List Value} {k s : List UInt8} {kd n : Int} {is : Bool} {l m r : JT} {i : Nat} (hd : List Value) (hl : hd.length = stM mem)
    (h : RowE P mem w ds r i) : RowE P mem w (hd ++ ds) (.cons k kd is n s l m r) (i + 1) := by
  obtain ⟨h1, e, h2, h3⟩ := h
  have e1 : (i + 1) * stM mem = hd.length + i * stM mem := by rw [hl, Nat.succ_mul, Nat.add_comm]
  refine ⟨?_, e, fun j v hj => ?_, h3⟩
  · cases mem with
    | true => exact ⟨by rw [e1, getD_app_r]; exact h1.1, h1.2⟩
    | false => exact h1
  · rw [e1, Nat.add_assoc, Nat.add_assoc, getD_app_r, ← Nat.add_assoc]; exact h2 j v hj
/-- A row's cells, one behind the other. -/
theorem JIn.flat {P : Nat → Prop} {w : World} : ∀ (t : JT) (mem : Bool) (b o : Nat), JIn P w mem b o t →
    ∃ ds, w.rangeAt b o ds ∧ ds.length = t.ext * stM mem ∧ (∀ u ∈ ds, u.oneCell' = true) ∧ ∀ i, i < t.ext → RowE P mem w ds t i
  | .nil, mem, b, o, _ => ⟨[], fun j v h => by simp at h, by simp [JT.ext], fun u hu => (by cases hu), fun i hi => absurd hi (by simp [JT.ext])⟩
  | .cons k kd is n s l m r, mem, b, o, h => by
    obtain ⟨hk, ⟨A, nl, cl, B, nm, cm, hr, h3, h4, h5, h6⟩, h7, hrest⟩ := h
    obtain ⟨ds, g1, g2, g3, g4⟩ := JIn.flat r mem b _ hrest
    have hl := newCA_len (mem := mem) (k := k) (e := [.int .i64 kd, .bool is, .int .i64 n, strV s, .slice A nl cl, .slice B nm cm]) rfl
    refine ⟨newC mem k [.int .i64 kd, .bool is, .int .i64 n, strV s, .slice A nl cl, .slice B nm cm] ++ ds, ?_, ?_, ?_, ?_⟩
    · intro j v hj
      by_cases hlt : j < (newC mem k [.int .i64 kd, .bool is, .int .i64 n, strV s, .slice A nl cl, .slice B nm cm]).length
      · rw [List.getElem?_append_left hlt] at hj
        cases mem with
        | false => exact hr j v hj
        | true =>
          match j, hj with
          | 0, hj =>
            simp only [newC, if_true, List.getElem?_cons_zero, Option.some.injEq] at hj
            subst hj; exact hk.1
          | j + 1, hj =>
            have := hr j v (by simpa [newC] using hj)
            rw [show kwM true = 1 from rfl] at this
            rw [show o + (j + 1) = o + 1 + j by omega]
            exact this
      · rw [List.getElem?_append_right (Nat.le_of_not_lt hlt)] at hj
        have := g1 _ v hj
        rw [hl] at this hlt
        rw [show o + stM mem + (j - stM mem) = o + j by omega] at this
        exact this
    · rw [List.length_append, hl, g2]
      show _ = (r.ext + 1) * stM mem
      rw [Nat.succ_mul, Nat.add_comm]
    · intro u hu
      rcases List.mem_append.1 hu with hu | hu
      · cases mem with
        | true =>
          simp only [newC, if_true, List.mem_cons, List.not_mem_nil, or_false] at hu
          rcases hu with rfl | rfl | rfl | rfl | rfl | rfl | rfl <;> rfl
        | false =>
          simp only [newC, Bool.false_eq_true, if_false, List.mem_cons, List.not_mem_nil, or_false] at hu
          rcases hu with rfl | rfl | rfl | rfl | rfl | rfl <;> rfl
      · exact g3 u hu
    · intro i hi
      cases i with
      | zero =>
        refine ⟨?_, [.int .i64 kd, .bool is, .int .i64 n, strV s, .slice A nl cl, .slice B nm cm], fun j v hj => ?_, A, nl, cl, B, nm, cm, rfl, h3, h4, h5, h6, h7⟩
        · cases mem with
          | true => exact ⟨rfl, hk.2⟩
          | false => exact hk
        · rw [Nat.zero_mul, Nat.zero_add]
          refine getD_app_l ?_
          cases mem with
          | true => rw [show kwM true = 1 from rfl, Nat.add_comm]; exact hj
          | false => rw [show kwM false = 0 from rfl, Nat.zero_add]; exact hj
      | succ i => exact (g4 i (by simp [JT.ext] at hi; omega)).shift _ hl
theorem RowE.cs {P : Nat → Prop} {mem : Bool} {w : World} {ds cs : List Value} {t : JT} {i : Nat} (h : RowE P mem w ds t i) (hc : ∀ (x : Nat) (v : Value), ds[x]? = some v → cs[x]? = some v) : RowE P mem w cs t i := by
  obtain ⟨h1, e, h2, h3⟩ := h
  refine ⟨?_, e, fun j v hj => hc _ _ (h2 j v hj), h3⟩
  cases mem with
  | true => exact ⟨hc _ _ h1.1, h1.2⟩
  | false => exact h1
theorem RowE.stay {P Q : Nat → Prop} {mem : Bool} {w w' : World} {cs : List Value} {t : JT} {i : Nat} (h : RowE P mem w cs t i) (hP : ∀ b o, P b → w'.cell? ⟨b, o, none⟩ = w.cell? ⟨b, o, none⟩) (hPQ : ∀ b, P b → Q b) : RowE Q mem w' cs t i := by
  obtain ⟨h1, e, h2, h3⟩ := h
  exact ⟨h1, e, h2, h3.stay hP hPQ⟩
/-- A clone of a row: in a block of its own, the parts where they were. -/
def ClonePost (P : Nat → Prop) (mem : Bool) (t : JT) (n : Nat) (w : World) (e : Ending) (w' : World) : Prop :=
  (∃ (A : Option Addr) (c : Nat), e = .returned (.slice A n c) ∧ n ≤ c ∧ (t.ext = 0 ∨ ∃ g cs, A = some ⟨g, 0, none⟩ ∧ w.heap.size ≤ g ∧ Blk w' g (tyM mem) cs ∧ n * stM mem ≤ cs.length ∧
    ∀ i, i < t.ext → RowE P mem w' cs t i) ∧ ∃ ds, w'.ownsRow w.heap.size (tyM mem) (stM mem) (.slice A n c) n ds ∧ ∀ i, i < t.ext → RowE P mem w' ds t i) ∧ Below w.heap.size w w'
theorem clone_none {P : Nat → Prop} {mem : Bool} {t : JT} {w : World} (h : t.ext = 0) : ClonePost P mem t 0 w (.returned (.slice none 0 0)) w :=
  ⟨⟨none, 0, rfl, Nat.zero_le _, .inl h, [], World.ownsRow_nil _ _ _ _, fun i hi => absurd hi (by omega)⟩, Below.refl _ _⟩
theorem own_empty {base : Nat} {mem : Bool} {w : World} (hb : base ≤ w.heap.size) : (w.alloc (.cells #[] (tyM mem))).ownsRow base (tyM mem) (stM mem) (.slice (some ⟨w.heap.size, 0, none⟩) 0 0) 0 [] :=
  ⟨by simp, .inr ⟨w.heap.size, 0, #[], rfl, hb, heap_alloc_new w _, Nat.le_refl _, by decide, by simp, by simp⟩⟩
/-- 'append([]T{}, row...)'. -/
theorem wpList_clone {ops : Array Oper} {rest : List Oper} {o : Oper} {a : Act} {Q : Exit → Act → World → Prop} {w : World} (P : Nat → Prop) (hP : ∀ b, P b → b < w.heap.size) (mem : Bool) (hgd : o.guard = none) (s x : Operand)
    (ho : o.op = .call { callee := .builtin .append, args := #[s, x], argTypes := #[tsM mem, tsM mem] })
    (T : TypeId) (hT : T = tyM mem) (hs : a.eval s = .slice (some ⟨w.heap.size, 0, none⟩) 0 0) (A : Addr) (n c : Nat) (t : JT) (hx : a.eval x = .slice (some A) n c) (hn : n = t.ext) (hn6 : n ≤ 1000000) (hl : JSl P w mem (some A) t)
    (h : ∀ v' w', ClonePost P mem t n w (.returned v') w' → wpList Tryz.prog ops Q rest (a.put o.dst v') w') :
    wpList Tryz.prog ops Q (o :: rest) a (w.alloc (.cells #[] T)) := by
  subst hT
  obtain ⟨i, z, hi, hz, hsz, hby, hzs⟩ := info_row mem
  have hflat : ∃ ds, (∀ j u, ds[j]? = some u → w.cell? (A.add j) = some u) ∧ ds.length = n * stM mem ∧ (∀ u ∈ ds, u.oneCell' = true) ∧ ∀ i, i < t.ext → RowE P mem w ds t i := by
    rcases hl with ht | ⟨b, off, e, hb, hj⟩
    · subst ht
      exact ⟨[], fun j u hj => by simp at hj, by rw [hn]; simp [JT.ext], fun u hu => (by cases hu), fun i hi => absurd hi (by simp [JT.ext])⟩
    · injection e with e
      obtain ⟨ds, g1, g2, g3, g4⟩ := JIn.flat t mem b off hj
      refine ⟨ds, fun j u hju => ?_, by rw [g2, hn], g3, g4⟩
      have hplain : A.add j = ⟨b, off + j, none⟩ := by rw [e]; unfold Addr.add; split <;> simp_all
      rw [hplain]; exact g1 j u hju
  obtain ⟨ds, g1, g2, g3, g4⟩ := hflat
  have hal : Below w.heap.size w (w.alloc (.cells #[] (tyM mem))) := (Below.refl _ _).alloc (Nat.le_refl _) _
  have hbb : (0 + n) * i.bytes ≤ 140737488355328 := by
    rw [hby]
    cases mem with
    | true => simp only [if_true]; omega
    | false => simp only [Bool.false_eq_true, if_false]; omega
  refine wpList_append_own _ hgd s x (tsM mem) ho w.heap.size (tyM mem) i z (stM mem) i.bytes (under_row mem) hi hz hsz rfl hzs (by cases mem <;> decide) _ 0 [] hs (own_empty (Nat.le_refl _)) A n c ds hx g2 ?_ g3 (by rw [Nat.zero_add]; exact Nat.le_trans hn6 (by decide)) hbb (by simp) ?_
  · intro j u hj
    have h1 := g1 j u hj
    have hblk : (A.add j).block < w.heap.size := World.block_lt_of_cell? w _ h1
    exact (hal.cell (p := A.add j) hblk).trans h1
  · intro v' w' h2 h3 _
    have hb : Below w.heap.size w w' := by
      refine ⟨h3.os, h3.tape, h3.output, Nat.le_trans (by simp) h3.size, fun k hk => ?_⟩
      refine (h3.block k (by simp; omega) (fun e => ?_)).trans (heap_alloc_old w _ hk)
      simp only [Value.ownBlock, Option.some.injEq] at e
      omega
    refine h v' w' ⟨?_, hb⟩
    rw [Nat.zero_add, List.nil_append] at h2
    have hds : ∀ i, i < t.ext → RowE P mem w' ds t i := fun i hi => (g4 i hi).stay (fun b o hlt => hb.cell (p := ⟨b, o, none⟩) (hP b hlt)) (fun b hlt => hlt)
    have h2' := h2
    rcases h2.2 with ⟨rfl, hn0⟩ | ⟨g, cap, cur, rfl, hbg, hh, hnc, hmx, hcs, ht⟩
    · exact ⟨none, 0, by rw [hn0], by omega, .inl (by omega), ds, by rw [hn0] at h2' ⊢; exact h2', hds⟩
    · refine ⟨some ⟨g, 0, none⟩, cap, rfl, hnc, .inr ⟨g, cur.toList, rfl, hbg, by unfold Blk; rw [Array.toArray_toList]; exact hh, by rw [Array.length_toList, hcs]; exact Nat.mul_le_mul_right _ hnc, fun i hi => ?_⟩, ds, h2', hds⟩
      refine ((g4 i hi).cs fun k u hu => ?_).stay (fun b o hlt => hb.cell (p := ⟨b, o, none⟩) (hP b hlt)) (fun b hlt => hlt)
      rw [← ht] at hu
      simp only [List.getElem?_take] at hu
      split at hu
      · exact hu
      · cases hu
end Go.Proofs.YtajkgcmopmpihaaGreatDoor
namespace Go.Proofs.YtajkgcmopmpihaaGreatDoor
open Go.ChangeShapes Go.WideShapes Go.ChangeAt Go.RowKit Go.IntWalk
set_option linter.unusedVariables false

set_option maxHeartbeats 4000000 in
theorem cloneV_calls (P : Nat → Prop) (A : Option Addr) (n c : Nat) (t : JT) (w : World) (hP : ∀ b, P b → b < w.heap.size) (hn : n = t.ext) (hn6 : n ≤ 1000000) (hs : JSl P w false A t) :
    Calls Tryz.prog 29 #[.slice A n c] w (ClonePost P false t n w) := by
  have HN := Lib.hid (And.intro hn (And.intro hn6 hs))
  have HP := Lib.hid hP
  cases A with
  | none =>
    have ht : t.ext = 0 := by
      rcases hs with h | ⟨b, o, e, _⟩
      · rw [h]; rfl
      · cases e
    have HT := Lib.hid ht
    obtain rfl : n = 0 := by omega
    have he : ∀ W, (binOp .eql 22 (.slice none 0 c) (.slice none 0 0)).run Tryz.prog W = .ok (.bool true) W := fun W => Lib.run_eql_slice_nil W _ _ none 0 c 0 0 Tryz.underlying22
    clear ht hn hn6 hs hP
    go_enter Tryz.func29, Tryz.ntmps29
    go_wp2_with fail
    go_ret
    exact clone_none HT.out
  | some A =>
    have he : ∀ W, (binOp .eql 22 (.slice (some A) n c) (.slice none 0 0)).run Tryz.prog W = .ok (.bool false) W := fun W => Lib.run_eql_slice_nil W _ _ (some A) n c 0 0 Tryz.underlying22
    clear hn hn6 hs hP
    go_enter Tryz.func29, Tryz.ntmps29
    go_wp2_with (at_builtin; refine wpList_clone P HP.out false rfl _ _ rfl _ rfl rfl A n c t rfl HN.out.1 HN.out.2.1 HN.out.2.2 ?_; intro v2 w5 h5)
    have H5 := Lib.hid h5
    clear h5
    go_wp2_with fail
    go_ret
    exact H5.out
end Go.Proofs.YtajkgcmopmpihaaGreatDoor
namespace Go.Proofs.YtajkgcmopmpihaaGreatDoor
open Go.ChangeShapes Go.WideShapes Go.ChangeAt Go.RowKit Go.IntWalk
set_option linter.unusedVariables false
set_option maxRecDepth 100000

/-- What was cloned, as a value's part. -/
theorem clone_part {P Q : Nat → Prop} {t : JT} {n : Nat} {w w' : World} {A : Option Addr} (hP : ∀ b, P b → Q b) (hQ : ∀ b, w.heap.size ≤ b → b < w'.heap.size → Q b) (h : t.ext = 0 ∨ ∃ g cs, A = some ⟨g, 0, none⟩ ∧ w.heap.size ≤ g ∧ Blk w' g (tyM false) cs ∧ n * stM false ≤ cs.length ∧ ∀ i, i < t.ext → RowE P false w' cs t i) : JSl Q w' false A t := by
  rcases h with h | ⟨g, cs, rfl, hg, hb, _, hr⟩
  · refine .inl ?_
    cases t with
    | nil => rfl
    | cons => simp [JT.ext] at h
  · refine .inr ⟨g, 0, rfl, hQ g hg hb.lt, JIn.of t false g 0 (fun i hi => ?_)⟩
    obtain ⟨e1, e, e2, e3⟩ := hr i hi
    exact ⟨e1, e, fun j v hj => by rw [Nat.zero_add]; exact hb.cell (e2 j v hj), e3.stay (fun _ _ _ => rfl) hP⟩
set_option maxHeartbeats 4000000 in
theorem jlist_calls (P : Nat → Prop) (A : Option Addr) (n c : Nat) (t : JT) (w : World) (hP : ∀ b, P b → b < w.heap.size) (hn : n = t.ext) (hn6 : n ≤ 1000000) (hs : JSl P w false A t) :
    Calls Tryz.prog 13 #[.slice A n c] w fun e w' => ∃ (A2 : Option Addr) (c2 : Nat), e = .returned (.agg #[.int .i64 4, .bool false, .int .i64 0, .string ⟨#[]⟩, .slice A2 n c2, .slice none 0 0]) ∧ VOk w' (lstV t) A2 none n c2 0 0 ∧ Below w.heap.size w w' := by
  have b0 : Below w.heap.size w (w.alloc (.cells #[.int .i64 0, .bool false, .int .i64 0, .string ⟨#[]⟩, .slice none 0 0, .slice none 0 0] 25)) := (Below.refl _ _).alloc (Nat.le_refl _) _
  have H0 := Lib.hid (And.intro b0 (And.intro (Blk.new w [.int .i64 0, .bool false, .int .i64 0, .string ⟨#[]⟩, .slice none 0 0, .slice none 0 0] 25) (And.intro hP (And.intro hn (And.intro hn6 hs)))))
  clear b0 hP hn hn6 hs
  go_enter Tryz.func13, Tryz.ntmps13
  go_upto_region 1 with fail
  refine wp_gen (fun W => Below w.heap.size w W ∧ Blk W w.heap.size 25 [.int .i64 0, .bool false, .int .i64 0, .string ⟨#[]⟩, .slice none 0 0, .slice none 0 0]) (And.intro H0.out.1 H0.out.2.1) ?_
  rintro W0 ⟨g1, g2⟩
  have H1 := Lib.hid (And.intro g1 g2)
  clear g1 g2
  go_wp2_with fail
  refine (cloneV_calls P A n c t W0 (fun b hb => Nat.lt_of_lt_of_le (H0.out.2.2.1 b hb) H1.out.1.size) H0.out.2.2.2.1 H0.out.2.2.2.2.1 (H0.out.2.2.2.2.2.stay (fun b o hb => H1.out.1.cell (p := ⟨b, o, none⟩) (H0.out.2.2.1 b hb)) (fun _ h => h))).mono ?_
  rintro e w2 ⟨⟨A2, c2, rfl, hnc, hpt, _⟩, b2⟩
  have hjs : JSl (fun b => b < w2.heap.size ∧ b ≠ w.heap.size) w2 false A2 t := clone_part (fun b hb => ⟨Nat.lt_of_lt_of_le (H0.out.2.2.1 b hb) (Nat.le_trans H1.out.1.size b2.size), Nat.ne_of_lt (H0.out.2.2.1 b hb)⟩) (fun b h1 h2 => ⟨h2, by have := H1.out.2.lt; omega⟩) hpt
  have k2 := H1.out.2.later b2
  have H2 := Lib.hid (And.intro (H1.out.1.then_ b2) (And.intro k2 (And.intro hnc hjs)))
  obtain ⟨z0, z1, z2, z3, z4, z5, y0, y1, y2, y3, y4, y5⟩ := cells6s k2
  clear b2 k2 hnc hpt hjs H1
  go_wp2_with fail
  have hc : Chg (· = w.heap.size) w2 (set6 w2 w.heap.size (.int .i64 4) (.bool false) (.int .i64 0) (.string ⟨#[]⟩) (.slice A2 n c2) (.slice none 0 0)) := (((((((Chg.refl (· = w.heap.size) w2).setCell (.inl rfl) _).setCell (.inl rfl) _).setCell (.inl rfl) _).setCell (.inl rfl) _).setCell (.inl rfl) _).setCell (.inl rfl) _)
  refine bodyPost_ret (res_cell6 rfl _ ⟨w.heap.size, 0, none⟩ _ _ rfl (Blk.load (blk6 H2.out.2.1) _ Tryz.underlying25 rfl size_v6)) rfl ⟨A2, c2, rfl, ?_, below6 H2.out.1 (Nat.le_refl _)⟩
  exact ⟨⟨H0.out.2.2.2.1, H2.out.2.2.1, by have := H0.out.2.2.2.2.1; omega⟩, ⟨rfl, Nat.le_refl _, Nat.zero_le _⟩, H2.out.2.2.2.stay (fun b o hb => hc.cell hb.1 hb.2) (fun b hb => Nat.lt_of_lt_of_le hb.1 hc.size), .inl rfl, (show Fit 4 0 [] from ⟨⟨by decide, by decide⟩, ⟨by decide, by decide⟩, by decide⟩)⟩
end Go.Proofs.YtajkgcmopmpihaaGreatDoor
