/- Texts put together: JqT JqU JqE. -/
import Derived.Test.YtajkgcmopmpihaaGreatDoorZ27e78829a0
import Derived.Test.YtajkgcmopmpihaaGreatDoorZ34aec9f78d
import Derived.Test.YtajkgcmopmpihaaGreatDoorZ289a413bb0
import Derived.Stop.LaidErr
namespace Go.Proofs.YtajkgcmopmpihaaGreatDoor
open Go.Lib
set_option linter.unusedVariables false

theorem nrm_ext : ∀ (t : JT) (mem : Bool), (nrmT mem t).ext = t.ext
  | .nil, _ => rfl
  | .cons k kd is n s l m r, mem => by simp only [nrmT, JT.ext, nrm_ext r mem]
theorem nrm_nil : ∀ (t : JT) (mem : Bool), (nrmT mem t).isNil = t.isNil
  | .nil, _ => rfl
  | .cons k kd is n s l m r, mem => rfl
theorem same_nrmT : ∀ (t u : JT) (mem : Bool), sameT mem t u = true → nrmT mem t = nrmT mem u
  | .nil, .nil, _, _ => rfl
  | .nil, .cons .., _, h => by simp [sameT] at h
  | .cons .., .nil, _, h => by simp [sameT] at h
  | .cons k kd is n s l m r, .cons k' kd' is' n' s' l' m' r', mem, h => by
    simp only [sameT, Bool.and_eq_true, Bool.or_eq_true, Bool.not_eq_true', beq_iff_eq] at h
    obtain ⟨⟨hk, ⟨h1, h2, h3, h4, h5, h6⟩, h7, h8⟩, h9⟩ := h
    have e1 := same_nrmT l l' false h7
    have e2 := same_nrmT m m' true h8
    have e3 := same_nrmT r r' mem h9
    simp only [nrmT, e1, e2, e3, h1, h2, h3, h4]
    cases mem with
    | false => rfl
    | true => rcases hk with hk | hk; cases hk; rw [hk]
theorem nrm_same : ∀ (t u : JT) (mem : Bool), nrmT mem t = nrmT mem u → sameT mem t u = true
  | .nil, .nil, _, _ => rfl
  | .nil, .cons .., _, h => by simp [nrmT] at h
  | .cons .., .nil, _, h => by simp [nrmT] at h
  | .cons k kd is n s l m r, .cons k' kd' is' n' s' l' m' r', mem, h => by
    simp only [nrmT, JT.cons.injEq] at h
    obtain ⟨hk, h1, h2, h3, h4, h5, h6, h7⟩ := h
    have e1 := nrm_same l l' false h5
    have e2 := nrm_same m m' true h6
    have e3 := nrm_same r r' mem h7
    have x1 : l.ext = l'.ext := by rw [← nrm_ext l false, h5, nrm_ext]
    have x2 : m.ext = m'.ext := by rw [← nrm_ext m true, h6, nrm_ext]
    simp only [sameT, e1, e2, e3, h1, h2, h3, h4, x1, x2, beq_self_eq_true, Bool.and_self, Bool.and_true, Bool.or_eq_true, Bool.not_eq_true', beq_iff_eq]
    cases mem with
    | false => exact .inl rfl
    | true => exact .inr (by simpa using hk)
theorem same_nrm {a b : Jv} : sameV a b = true ↔ nrmV a = nrmV b := by
  constructor
  · intro h
    simp only [sameV, headB, Bool.and_eq_true, beq_iff_eq] at h
    obtain ⟨⟨h1, h2, h3, h4, h5, h6⟩, h7, h8⟩ := h
    unfold nrmV
    rw [h1, h2, h3, h4, same_nrmT _ _ _ h7, same_nrmT _ _ _ h8]
  · intro h
    unfold nrmV at h
    injection h with h1 h2 h3 h4 h5 h6
    have x1 : a.l.ext = b.l.ext := by rw [← nrm_ext a.l false, h5, nrm_ext]
    have x2 : a.m.ext = b.m.ext := by rw [← nrm_ext a.m true, h6, nrm_ext]
    simp only [sameV, headB, h1, h2, h3, h4, x1, x2, nrm_same _ _ _ h5, nrm_same _ _ _ h6, beq_self_eq_true, Bool.and_self]
theorem wrK_like (k k' b : List UInt8) : ∀ {p p' : Option (List UInt8)}, p.isSome = p'.isSome → wrK false p k b = wrK false p' k' b
  | none, none, _ => rfl
  | some _, some _, _ => rfl
theorem wrB_like {v v' : Jv} {deep : Nat} {wl wl' wm wm' : List UInt8 → Res} (h0 : v.kd = v'.kd) (h1 : v.is = v'.is) (h2 : v.n = v'.n) (h3 : v.s = v'.s) (h4 : v.l.isNil = v'.l.isNil) (h5 : v.m.isNil = v'.m.isNil) (hl : ∀ b, wl b = wl' b) (hm : ∀ b, wm b = wm' b) (b : List UInt8) : wrB v deep wl wm b = wrB v' deep wl' wm' b := by
  have e1 : wl = wl' := funext hl
  have e2 : wm = wm' := funext hm
  unfold wrB Jv.bare
  rw [h0, h1, h2, h3, h4, h5, e1, e2]
theorem wrF_nrm : ∀ (t : JT), (∀ (deep : Nat) (p : Option (List UInt8)) (b : List UInt8), wrF true (nrmT true t) deep p b = wrF true t deep p b) ∧ (∀ (deep : Nat) (p p' : Option (List UInt8)) (b : List UInt8), p.isSome = p'.isSome → wrF false (nrmT false t) deep p b = wrF false t deep p' b)
  | .nil => ⟨fun _ _ _ => rfl, fun _ _ _ _ _ => rfl⟩
  | .cons k kd is n s l m r => by
    have hl := (wrF_nrm l).2
    have hm := (wrF_nrm m).1
    have hr := wrF_nrm r
    have hB : ∀ (deep : Nat) (b : List UInt8), wrB ⟨kd, is, n, s, nrmT false l, nrmT true m⟩ deep (fun b => wrF false (nrmT false l) (deep + 1) none b) (fun b => wrF true (nrmT true m) (deep + 1) none b) b = wrB ⟨kd, is, n, s, l, m⟩ deep (fun b => wrF false l (deep + 1) none b) (fun b => wrF true m (deep + 1) none b) b :=
      fun deep b => by
        refine wrB_like (v := ⟨kd, is, n, s, nrmT false l, nrmT true m⟩) (v' := ⟨kd, is, n, s, l, m⟩) rfl rfl rfl rfl (nrm_nil l false) (nrm_nil m true) ?_ ?_ b
        · intro b; exact hl _ _ _ b rfl
        · intro b; exact hm _ _ b
    refine ⟨fun deep p b => ?_, fun deep p p' b h => ?_⟩
    · show (wrK true p k b).then _ = (wrK true p k b).then _
      congr 1
      funext b1
      rw [hB]
      congr 1
      funext b2
      exact hr.1 _ _ _
    · show (wrK false p [] b).then _ = (wrK false p' k b).then _
      rw [wrK_like [] k b h]
      congr 1
      funext b1
      rw [hB]
      congr 1
      funext b2
      exact hr.2 _ _ _ _ rfl
theorem wrV_nrm (v : Jv) (deep : Nat) (b : List UInt8) : wrV (nrmV v) deep b = wrV v deep b := by
  unfold wrV
  refine wrB_like (v := nrmV v) (v' := v) rfl rfl rfl rfl (nrm_nil v.l false) (nrm_nil v.m true) ?_ ?_ b
  · intro b; exact (wrF_nrm v.l).2 _ _ _ b rfl
  · intro b; exact (wrF_nrm v.m).1 _ _ b
theorem canF_nrm (v : Jv) : canF (nrmV v) = canF v := by unfold canF; rw [wrV_nrm]
/-- Texts tell values. -/
theorem can_tells {a b : Jv} {s t : List UInt8} (ha : canF a = (s, 0)) (hb : canF b = (t, 0)) : (s == t) = sameV a b := by
  cases hs : sameV a b with
  | true =>
    have e := same_nrm.1 hs
    have : (s, (0 : Int)) = (t, 0) := by rw [← ha, ← hb, ← canF_nrm a, ← canF_nrm b, e]
    injection this with this
    rw [this]; simp
  | false =>
    rw [beq_eq_false_iff_ne]
    intro e
    subst e
    have h1 := par_can ha
    rw [par_can hb] at h1
    injection h1 with h1 _
    rw [same_nrm.2 h1.symm] at hs
    cases hs
end Go.Proofs.YtajkgcmopmpihaaGreatDoor
namespace Go.Proofs.YtajkgcmopmpihaaGreatDoor
open Go.ChangeShapes Go.WideShapes Go.ChangeAt Go.RowKit Go.IntWalk
set_option linter.unusedVariables false
set_option maxRecDepth 100000

/-- What the row lists: the powers of ten, strconv's two variables. -/
def TabP (w : World) : Prop := TabJ w ∧ ErrC w
theorem TabP.below {w w' : World} (h : TabP w) (b : Below w.heap.size w w') : TabP w' := ⟨h.1.below b, h.2.later b⟩
theorem great9_ok {w : World} {v : Jv} {A B : Option Addr} {nl cl nm cm : Nat} (h : VOk w v A B nl cl nm cm) :
    Calls Tryz.prog 16 #[.agg #[.int .i64 v.kd, .bool v.is, .int .i64 v.n, .string ⟨v.s.toArray⟩, .slice A nl cl, .slice B nm cm]] w (GrtPost w) :=
  great_calls v A B nl cl nm cm w h.1 h.2.1 h.2.2.1 h.2.2.2.1 h.2.2.2.2
set_option maxHeartbeats 8000000 in
theorem jsonTells_walk (a0 : Jv) (A0 B0 : Option Addr) (nl0 cl0 nm0 cm0 : Nat) {w : World} (hr0 : VOk w a0 A0 B0 nl0 cl0 nm0 cm0) (a1 : Jv) (A1 B1 : Option Addr) (nl1 cl1 nm1 cm1 : Nat) (hr1 : VOk w a1 A1 B1 nl1 cl1 nm1 cm1) (hT : TabP w) :
    Calls Tryz.prog 6 #[.agg #[.int .i64 a0.kd, .bool a0.is, .int .i64 a0.n, .string ⟨a0.s.toArray⟩, .slice A0 nl0 cl0, .slice B0 nm0 cm0], .agg #[.int .i64 a1.kd, .bool a1.is, .int .i64 a1.n, .string ⟨a1.s.toArray⟩, .slice A1 nl1 cl1, .slice B1 nm1 cm1]] w fun e w' => e = .returned (.bool true) ∧ Below w.heap.size w w' := by
  have b0 : Below w.heap.size w ((w.alloc (.cells #[.int .i64 a0.kd, .bool a0.is, .int .i64 a0.n, .string ⟨a0.s.toArray⟩, .slice A0 nl0 cl0, .slice B0 nm0 cm0] 25)).alloc (.cells #[.int .i64 a1.kd, .bool a1.is, .int .i64 a1.n, .string ⟨a1.s.toArray⟩, .slice A1 nl1 cl1, .slice B1 nm1 cm1] 25)) := ((Below.refl _ _).alloc (Nat.le_refl _) _).alloc (by simp) _
  have z0 : Blk ((w.alloc (.cells #[.int .i64 a0.kd, .bool a0.is, .int .i64 a0.n, .string ⟨a0.s.toArray⟩, .slice A0 nl0 cl0, .slice B0 nm0 cm0] 25)).alloc (.cells #[.int .i64 a1.kd, .bool a1.is, .int .i64 a1.n, .string ⟨a1.s.toArray⟩, .slice A1 nl1 cl1, .slice B1 nm1 cm1] 25)) w.heap.size 25 [.int .i64 a0.kd, .bool a0.is, .int .i64 a0.n, .string ⟨a0.s.toArray⟩, .slice A0 nl0 cl0, .slice B0 nm0 cm0] := (Blk.new w _ _).later ((Below.refl _ _).alloc (Nat.le_refl _) _)
  have z1 : Blk ((w.alloc (.cells #[.int .i64 a0.kd, .bool a0.is, .int .i64 a0.n, .string ⟨a0.s.toArray⟩, .slice A0 nl0 cl0, .slice B0 nm0 cm0] 25)).alloc (.cells #[.int .i64 a1.kd, .bool a1.is, .int .i64 a1.n, .string ⟨a1.s.toArray⟩, .slice A1 nl1 cl1, .slice B1 nm1 cm1] 25)) (w.heap.size + 1) 25 [.int .i64 a1.kd, .bool a1.is, .int .i64 a1.n, .string ⟨a1.s.toArray⟩, .slice A1 nl1 cl1, .slice B1 nm1 cm1] := by
    have := Blk.new (w.alloc (.cells #[.int .i64 a0.kd, .bool a0.is, .int .i64 a0.n, .string ⟨a0.s.toArray⟩, .slice A0 nl0 cl0, .slice B0 nm0 cm0] 25)) [.int .i64 a1.kd, .bool a1.is, .int .i64 a1.n, .string ⟨a1.s.toArray⟩, .slice A1 nl1 cl1, .slice B1 nm1 cm1] 25
    simpa using this
  have HV := Lib.hid (And.intro hr0 (And.intro hr1 hT))
  have H0 := Lib.hid (And.intro b0 (And.intro z0 z1))
  obtain ⟨cb, ce, hc⟩ : ∃ cb ce, canF a0 = (cb, ce) := ⟨_, _, rfl⟩
  obtain ⟨db, de, hd⟩ : ∃ db de, canF a1 = (db, de) := ⟨_, _, rfl⟩
  have HC := Lib.hid (And.intro hc hd)
  clear hr0 hr1 hT b0 z0 z1 hc hd
  go_enter Tryz.func6, Tryz.ntmps6
  go_upto_region 1 with fail
  refine wp_gen (fun W => Below w.heap.size w W ∧ Blk W w.heap.size 25 [.int .i64 a0.kd, .bool a0.is, .int .i64 a0.n, .string ⟨a0.s.toArray⟩, .slice A0 nl0 cl0, .slice B0 nm0 cm0] ∧ Blk W (w.heap.size + 1) 25 [.int .i64 a1.kd, .bool a1.is, .int .i64 a1.n, .string ⟨a1.s.toArray⟩, .slice A1 nl1 cl1, .slice B1 nm1 cm1]) H0.out ?_
  clear H0
  rintro W0 hW0
  have H0 := Lib.hid hW0
  clear hW0
  go_wp2_with fail
  refine (alive9_calls W0 (HV.out.2.2.below H0.out.1).2 (HV.out.2.2.below H0.out.1).1).mono ?_
  rintro e w1 ⟨rfl, b1⟩
  have H1 := Lib.hid (And.intro (H0.out.1.then_ b1) (And.intro (H0.out.2.1.later b1) (H0.out.2.2.later b1)))
  clear b1 H0
  obtain ⟨d0, d1, d2, d3, d4, d5, _⟩ := cells6s H1.out.2.1
  go_wp2_with fail
  refine (great9_ok (HV.out.1.below H1.out.1)).mono ?_
  rintro e w2 ⟨⟨gr, rfl⟩, b2⟩
  have H2 := Lib.hid (And.intro (H1.out.1.then_ b2) (And.intro (H1.out.2.1.later b2) (H1.out.2.2.later b2)))
  clear b2 H1 d0 d1 d2 d3 d4 d5
  cases gr with
  | true =>
    go_wp2_with fail
    go_ret
    exact ⟨rfl, H2.out.1⟩
  | false =>
    obtain ⟨d0, d1, d2, d3, d4, d5, _⟩ := cells6s H2.out.2.2
    go_wp2_with fail
    refine (great9_ok (HV.out.2.1.below H2.out.1)).mono ?_
    rintro e w3 ⟨⟨gr, rfl⟩, b3⟩
    have H3 := Lib.hid (And.intro (H2.out.1.then_ b3) (And.intro (H2.out.2.1.later b3) (H2.out.2.2.later b3)))
    clear b3 H2 d0 d1 d2 d3 d4 d5
    cases gr with
    | true =>
      go_wp2_with fail
      go_ret
      exact ⟨rfl, H3.out.1⟩
    | false =>
      obtain ⟨d0, d1, d2, d3, d4, d5, _⟩ := cells6s H3.out.2.1
      go_wp2_with fail
      refine (canon_at (HV.out.1.below H3.out.1) (HV.out.2.2.below H3.out.1).1 HC.out.1).mono ?_
      rintro e w4 ⟨rfl, b4⟩
      have H4 := Lib.hid (And.intro (H3.out.1.then_ b4) (And.intro (H3.out.2.1.later b4) (H3.out.2.2.later b4)))
      clear b4 H3 d0 d1 d2 d3 d4 d5
      obtain ⟨d0, d1, d2, d3, d4, d5, _⟩ := cells6s H4.out.2.2
      go_wp2_with fail
      refine (canon_at (HV.out.2.1.below H4.out.1) (HV.out.2.2.below H4.out.1).1 HC.out.2).mono ?_
      rintro e w5 ⟨rfl, b5⟩
      have H5 := Lib.hid (And.intro (H4.out.1.then_ b5) (And.intro (H4.out.2.1.later b5) (H4.out.2.2.later b5)))
      clear b5 H4 d0 d1 d2 d3 d4 d5
      by_cases hce : ce = 0
      · by_cases hde : de = 0
        · subst hce hde
          obtain ⟨q, hq⟩ : ∃ q, sameV a0 a1 = q := ⟨_, rfl⟩
          have hs := can_tells HC.out.1 HC.out.2
          rw [hq] at hs
          have hs2 : ((⟨cb.toArray⟩ : ByteArray) == ⟨db.toArray⟩) = q := by
            rw [← hs]
            show (cb.toArray == db.toArray) = (cb == db)
            simp
          have HQ := Lib.hid hq
          clear hq
          obtain ⟨d0, d1, d2, d3, d4, d5, _⟩ := cells6s H5.out.2.1
          obtain ⟨e0, e1, e2, e3, e4, e5, _⟩ := cells6s H5.out.2.2
          go_wp2_with fail
          refine (same_calls a0.bulk a0 a1 A0 B0 A1 B1 nl0 cl0 nm0 cm0 nl1 cl1 nm1 cm1 w5 (Nat.le_refl _) (HV.out.1.below H5.out.1) (HV.out.2.1.below H5.out.1)).mono ?_
          rintro e w6 ⟨rfl, b6⟩
          have H6 := Lib.hid (H5.out.1.then_ b6)
          clear b6 d0 d1 d2 d3 d4 d5 e0 e1 e2 e3 e4 e5
          rw [HQ.out]
          cases q <;> (go_wp2_with fail; go_ret; exact ⟨rfl, H6.out⟩)
        · subst hce
          have h1 : (de != 0) = true := by simpa using hde
          go_wp2_with fail
          go_ret
          exact ⟨rfl, H5.out.1⟩
      · have h1 : (ce != 0) = true := by simpa using hce
        go_wp2_with fail
        go_ret
        exact ⟨rfl, H5.out.1⟩
end Go.Proofs.YtajkgcmopmpihaaGreatDoor
namespace Go.Proofs.YtajkgcmopmpihaaGreatDoor
open Go.ChangeShapes Go.WideShapes Go.ChangeAt Go.RowKit Go.IntWalk
set_option linter.unusedVariables false
set_option maxRecDepth 100000

def synD : DataW Unit := .iface "*errors.errorString" (.ptr (.agg [.lit (.string [105, 110, 118, 97, 108, 105, 100, 32, 115, 121, 110, 116, 97, 120])]))
def rngD : DataW Unit := .iface "*errors.errorString" (.ptr (.agg [.lit (.string [118, 97, 108, 117, 101, 32, 111, 117, 116, 32, 111, 102, 32, 114, 97, 110, 103, 101])]))
theorem gSyn : Tryz.prog.globalNamed "strconv.ErrSyntax" = some 1 := by kernel_rfl
theorem gSynT : (Tryz.prog.globals[1]?).map (·.type) = some 110 := by kernel_rfl
theorem gRng : Tryz.prog.globalNamed "strconv.ErrRange" = some 2 := by kernel_rfl
theorem gRngT : (Tryz.prog.globals[2]?).map (·.type) = some 110 := by kernel_rfl
theorem errCells : Tryz.prog.cellsOf 186 = 1 := by kernel_rfl
theorem strCells : Tryz.prog.cellsOf 9 = 1 := by kernel_rfl
theorem starErr : "*" ++ "errors.errorString" = "*errors.errorString" := by decide
theorem errRow (u : TypeId) (h : Tryz.prog.typeName? 3 u = some "*errors.errorString") : u = 184 :=
  typeName_ptr_named (nm := "errors.errorString") (by rw [starErr]; kernel_rfl) (by kernel_rfl) (by decide) u (by rw [starErr]; exact h)
theorem errC_of_laid {W : World} (h1 : laidMet Tryz.prog [("strconv.ErrSyntax", synD)] W) (h2 : laidMet Tryz.prog [("strconv.ErrRange", rngD)] W) : ErrC W := by
  obtain ⟨a1, s1, v1, -, -, -⟩ := laid_sentinel h1 gSyn gSynT Tryz.underlying110 errRow Tryz.underlying184 Tryz.underlying186 rfl rfl Tryz.underlying9 errCells strCells
  obtain ⟨a2, s2, v2, -, -, -⟩ := laid_sentinel h2 gRng gRngT Tryz.underlying110 errRow Tryz.underlying184 Tryz.underlying186 rfl rfl Tryz.underlying9 errCells strCells
  have c1 := World.var?_cell gSyn v1 0
  have c2 := World.var?_cell gRng v2 0
  have c1' : W.cell? ⟨1, 0, none⟩ = some (.iface 184 (.pointer (some a1))) := by simpa using c1
  have c2' : W.cell? ⟨2, 0, none⟩ = some (.iface 184 (.pointer (some a2))) := by simpa using c2
  exact ⟨World.block_lt_of_cell? W _ c2', ⟨_, c1', .inr ⟨_, _, rfl⟩⟩, _, c2', .inr ⟨_, _, rfl⟩⟩
end Go.Proofs.YtajkgcmopmpihaaGreatDoor
