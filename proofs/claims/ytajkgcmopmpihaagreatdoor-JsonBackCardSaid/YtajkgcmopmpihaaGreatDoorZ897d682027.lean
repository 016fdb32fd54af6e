/- Texts put together: JqT JqU JqE JqR JqB. -/
import Derived.Test.YtajkgcmopmpihaaGreatDoorZ27e78829a0
import Derived.Test.YtajkgcmopmpihaaGreatDoorZ34aec9f78d
import Derived.Test.YtajkgcmopmpihaaGreatDoorZ289a413bb0
import Derived.Stop.LaidErr
import Derived.Test.YtajkgcmopmpihaaGreatDoorZ16d0a359f4
namespace Go.Proofs.YtajkgcmopmpihaaGreatDoor
open Go.Lib
set_option linter.unusedVariables false

theorem nrm_ext : ∀ (t : JT) (mem : Bool), (nrmT mem t).ext = t.ext
  | .nil, _ => rfl
  | .cons k kd is n s l m r, mem => by simp only [nrmT, JT.ext, nrm_ext r mem]
theorem nrm_nil : ∀ (t : JT) (mem : Bool), (nrmT mem t).isNil = t.isNil
  | .nil, _ => rfl
  | .cons k kd is n s l m r, mem => rfl
theorem same_nrmT : ∀ (t u : JT) (mem : Bool), sameT mem t u = true → nrmT mem t = nrmT mem u
  | .nil, .nil, _, _ => rfl
  | .nil, .cons .., _, h => by simp [sameT] at h
  | .cons .., .nil, _, h => by simp [sameT] at h
  | .cons k kd is n s l m r, .cons k' kd' is' n' s' l' m' r', mem, h => by
    simp only [sameT, Bool.and_eq_true, Bool.or_eq_true, Bool.not_eq_true', beq_iff_eq] at h
    obtain ⟨⟨hk, ⟨h1, h2, h3, h4, h5, h6⟩, h7, h8⟩, h9⟩ := h
    have e1 := same_nrmT l l' false h7
    have e2 := same_nrmT m m' true h8
    have e3 := same_nrmT r r' mem h9
    simp only [nrmT, e1, e2, e3, h1, h2, h3, h4]
    cases mem with
    | false => rfl
    | true => rcases hk with hk | hk; cases hk; rw [hk]
theorem nrm_same : ∀ (t u : JT) (mem : Bool), nrmT mem t = nrmT mem u → sameT mem t u = true
  | .nil, .nil, _, _ => rfl
  | .nil, .cons .., _, h => by simp [nrmT] at h
  | .cons .., .nil, _, h => by simp [nrmT] at h
  | .cons k kd is n s l m r, .cons k' kd' is' n' s' l' m' r', mem, h => by
    simp only [nrmT, JT.cons.injEq] at h
    obtain ⟨hk, h1, h2, h3, h4, h5, h6, h7⟩ := h
    have e1 := nrm_same l l' false h5
    have e2 := nrm_same m m' true h6
    have e3 := nrm_same r r' mem h7
    have x1 : l.ext = l'.ext := by rw [← nrm_ext l false, h5, nrm_ext]
    have x2 : m.ext = m'.ext := by rw [← nrm_ext m true, h6, nrm_ext]
    simp only [sameT, e1, e2, e3, h1, h2, h3, h4, x1, x2, beq_self_eq_true, Bool.and_self, Bool.and_true, Bool.or_eq_true, Bool.not_eq_true', beq_iff_eq]
    cases mem with
    | false => exact .inl rfl
    | true => exact .inr (by simpa using hk)
theorem same_nrm {a b : Jv} : sameV a b = true ↔ nrmV a = nrmV b := by
  constructor
  · intro h
    simp only [sameV, headB, Bool.and_eq_true, beq_iff_eq] at h
    obtain ⟨⟨h1, h2, h3, h4, h5, h6⟩, h7, h8⟩ := h
    unfold nrmV
    rw [h1, h2, h3, h4, same_nrmT _ _ _ h7, same_nrmT _ _ _ h8]
  · intro h
    unfold nrmV at h
    injection h with h1 h2 h3 h4 h5 h6
    have x1 : a.l.ext = b.l.ext := by rw [← nrm_ext a.l false, h5, nrm_ext]
    have x2 : a.m.ext = b.m.ext := by rw [← nrm_ext a.m true, h6, nrm_ext]
    simp only [sameV, headB, h1, h2, h3, h4, x1, x2, nrm_same _ _ _ h5, nrm_same _ _ _ h6, beq_self_eq_true, Bool.and_self]
theorem wrK_like (k k' b : List UInt8) : ∀ {p p' : Option (List UInt8)}, p.isSome = p'.isSome → wrK false p k b = wrK false p' k' b
  | none, none, _ => rfl
  | some _, some _, _ => rfl
theorem wrB_like {v v' : Jv} {deep : Nat} {wl wl' wm wm' : List UInt8 → Res} (h0 : v.kd = v'.kd) (h1 : v.is = v'.is) (h2 : v.n = v'.n) (h3 : v.s = v'.s) (h4 : v.l.isNil = v'.l.isNil) (h5 : v.m.isNil = v'.m.isNil) (hl : ∀ b, wl b = wl' b) (hm : ∀ b, wm b = wm' b) (b : List UInt8) : wrB v deep wl wm b = wrB v' deep wl' wm' b := by
  have e1 : wl = wl' := funext hl
  have e2 : wm = wm' := funext hm
  unfold wrB Jv.bare
  rw [h0, h1, h2, h3, h4, h5, e1, e2]
theorem wrF_nrm : ∀ (t : JT), (∀ (deep : Nat) (p : Option (List UInt8)) (b : List UInt8), wrF true (nrmT true t) deep p b = wrF true t deep p b) ∧ (∀ (deep : Nat) (p p' : Option (List UInt8)) (b : List UInt8), p.isSome = p'.isSome → wrF false (nrmT false t) deep p b = wrF false t deep p' b)
  | .nil => ⟨fun _ _ _ => rfl, fun _ _ _ _ _ => rfl⟩
  | .cons k kd is n s l m r => by
    have hl := (wrF_nrm l).2
    have hm := (wrF_nrm m).1
    have hr := wrF_nrm r
    have hB : ∀ (deep : Nat) (b : List UInt8), wrB ⟨kd, is, n, s, nrmT false l, nrmT true m⟩ deep (fun b => wrF false (nrmT false l) (deep + 1) none b) (fun b => wrF true (nrmT true m) (deep + 1) none b) b = wrB ⟨kd, is, n, s, l, m⟩ deep (fun b => wrF false l (deep + 1) none b) (fun b => wrF true m (deep + 1) none b) b :=
      fun deep b => by
        refine wrB_like (v := ⟨kd, is, n, s, nrmT false l, nrmT true m⟩) (v' := ⟨kd, is, n, s, l, m⟩) rfl rfl rfl rfl (nrm_nil l false) (nrm_nil m true) ?_ ?_ b
        · intro b; exact hl _ _ _ b rfl
        · intro b; exact hm _ _ b
    refine ⟨fun deep p b => ?_, fun deep p p' b h => ?_⟩
    · show (wrK true p k b).then _ = (wrK true p k b).then _
      congr 1
      funext b1
      rw [hB]
      congr 1
      funext b2
      exact hr.1 _ _ _
    · show (wrK false p [] b).then _ = (wrK false p' k b).then _
      rw [wrK_like [] k b h]
      congr 1
      funext b1
      rw [hB]
      congr 1
      funext b2
      exact hr.2 _ _ _ _ rfl
theorem wrV_nrm (v : Jv) (deep : Nat) (b : List UInt8) : wrV (nrmV v) deep b = wrV v deep b := by
  unfold wrV
  refine wrB_like (v := nrmV v) (v' := v) rfl rfl rfl rfl (nrm_nil v.l false) (nrm_nil v.m true) ?_ ?_ b
  · intro b; exact (wrF_nrm v.l).2 _ _ _ b rfl
  · intro b; exact (wrF_nrm v.m).1 _ _ b
theorem canF_nrm (v : Jv) : canF (nrmV v) = canF v := by unfold canF; rw [wrV_nrm]
/-- Texts tell values. -/
theorem can_tells {a b : Jv} {s t : List UInt8} (ha : canF a = (s, 0)) (hb : canF b = (t, 0)) : (s == t) = sameV a b := by
  cases hs : sameV a b with
  | true =>
    have e := same_nrm.1 hs
    have : (s, (0 : Int)) = (t, 0) := by rw [← ha, ← hb, ← canF_nrm a, ← canF_nrm b, e]
    injection this with this
    rw [this]; simp
  | false =>
    rw [beq_eq_false_iff_ne]
    intro e
    subst e
    have h1 := par_can ha
    rw [par_can hb] at h1
    injection h1 with h1 _
    rw [same_nrm.2 h1.symm] at hs
    cases hs
end Go.Proofs.YtajkgcmopmpihaaGreatDoor
namespace Go.Proofs.YtajkgcmopmpihaaGreatDoor
open Go.ChangeShapes Go.WideShapes Go.ChangeAt Go.RowKit Go.IntWalk
set_option linter.unusedVariables false
set_option maxRecDepth 100000

/-- What the row lists: the powers of ten, strconv's two variables. -/
def TabP (w : World) : Prop := TabJ w ∧ ErrC w
theorem TabP.below {w w' : World} (h : TabP w) (b : Below w.heap.size w w') : TabP w' := ⟨h.1.below b, h.2.later b⟩
theorem great9_ok {w : World} {v : Jv} {A B : Option Addr} {nl cl nm cm : Nat} (h : VOk w v A B nl cl nm cm) :
    Calls Tryz.prog 16 #[.agg #[.int .i64 v.kd, .bool v.is, .int .i64 v.n, .string ⟨v.s.toArray⟩, .slice A nl cl, .slice B nm cm]] w (GrtPost w) :=
  great_calls v A B nl cl nm cm w h.1 h.2.1 h.2.2.1 h.2.2.2.1 h.2.2.2.2
set_option maxHeartbeats 8000000 in
theorem jsonTells_walk (a0 : Jv) (A0 B0 : Option Addr) (nl0 cl0 nm0 cm0 : Nat) {w : World} (hr0 : VOk w a0 A0 B0 nl0 cl0 nm0 cm0) (a1 : Jv) (A1 B1 : Option Addr) (nl1 cl1 nm1 cm1 : Nat) (hr1 : VOk w a1 A1 B1 nl1 cl1 nm1 cm1) (hT : TabP w) :
    Calls Tryz.prog 6 #[.agg #[.int .i64 a0.kd, .bool a0.is, .int .i64 a0.n, .string ⟨a0.s.toArray⟩, .slice A0 nl0 cl0, .slice B0 nm0 cm0], .agg #[.int .i64 a1.kd, .bool a1.is, .int .i64 a1.n, .string ⟨a1.s.toArray⟩, .slice A1 nl1 cl1, .slice B1 nm1 cm1]] w fun e w' => e = .returned (.bool true) ∧ Below w.heap.size w w' := by
  have b0 : Below w.heap.size w ((w.alloc (.cells #[.int .i64 a0.kd, .bool a0.is, .int .i64 a0.n, .string ⟨a0.s.toArray⟩, .slice A0 nl0 cl0, .slice B0 nm0 cm0] 25)).alloc (.cells #[.int .i64 a1.kd, .bool a1.is, .int .i64 a1.n, .string ⟨a1.s.toArray⟩, .slice A1 nl1 cl1, .slice B1 nm1 cm1] 25)) := ((Below.refl _ _).alloc (Nat.le_refl _) _).alloc (by simp) _
  have z0 : Blk ((w.alloc (.cells #[.int .i64 a0.kd, .bool a0.is, .int .i64 a0.n, .string ⟨a0.s.toArray⟩, .slice A0 nl0 cl0, .slice B0 nm0 cm0] 25)).alloc (.cells #[.int .i64 a1.kd, .bool a1.is, .int .i64 a1.n, .string ⟨a1.s.toArray⟩, .slice A1 nl1 cl1, .slice B1 nm1 cm1] 25)) w.heap.size 25 [.int .i64 a0.kd, .bool a0.is, .int .i64 a0.n, .string ⟨a0.s.toArray⟩, .slice A0 nl0 cl0, .slice B0 nm0 cm0] := (Blk.new w _ _).later ((Below.refl _ _).alloc (Nat.le_refl _) _)
  have z1 : Blk ((w.alloc (.cells #[.int .i64 a0.kd, .bool a0.is, .int .i64 a0.n, .string ⟨a0.s.toArray⟩, .slice A0 nl0 cl0, .slice B0 nm0 cm0] 25)).alloc (.cells #[.int .i64 a1.kd, .bool a1.is, .int .i64 a1.n, .string ⟨a1.s.toArray⟩, .slice A1 nl1 cl1, .slice B1 nm1 cm1] 25)) (w.heap.size + 1) 25 [.int .i64 a1.kd, .bool a1.is, .int .i64 a1.n, .string ⟨a1.s.toArray⟩, .slice A1 nl1 cl1, .slice B1 nm1 cm1] := by
    have := Blk.new (w.alloc (.cells #[.int .i64 a0.kd, .bool a0.is, .int .i64 a0.n, .string ⟨a0.s.toArray⟩, .slice A0 nl0 cl0, .slice B0 nm0 cm0] 25)) [.int .i64 a1.kd, .bool a1.is, .int .i64 a1.n, .string ⟨a1.s.toArray⟩, .slice A1 nl1 cl1, .slice B1 nm1 cm1] 25
    simpa using this
  have HV := Lib.hid (And.intro hr0 (And.intro hr1 hT))
  have H0 := Lib.hid (And.intro b0 (And.intro z0 z1))
  obtain ⟨cb, ce, hc⟩ : ∃ cb ce, canF a0 = (cb, ce) := ⟨_, _, rfl⟩
  obtain ⟨db, de, hd⟩ : ∃ db de, canF a1 = (db, de) := ⟨_, _, rfl⟩
  have HC := Lib.hid (And.intro hc hd)
  clear hr0 hr1 hT b0 z0 z1 hc hd
  go_enter Tryz.func6, Tryz.ntmps6
  go_upto_region 1 with fail
  refine wp_gen (fun W => Below w.heap.size w W ∧ Blk W w.heap.size 25 [.int .i64 a0.kd, .bool a0.is, .int .i64 a0.n, .string ⟨a0.s.toArray⟩, .slice A0 nl0 cl0, .slice B0 nm0 cm0] ∧ Blk W (w.heap.size + 1) 25 [.int .i64 a1.kd, .bool a1.is, .int .i64 a1.n, .string ⟨a1.s.toArray⟩, .slice A1 nl1 cl1, .slice B1 nm1 cm1]) H0.out ?_
  clear H0
  rintro W0 hW0
  have H0 := Lib.hid hW0
  clear hW0
  go_wp2_with fail
  refine (alive9_calls W0 (HV.out.2.2.below H0.out.1).2 (HV.out.2.2.below H0.out.1).1).mono ?_
  rintro e w1 ⟨rfl, b1⟩
  have H1 := Lib.hid (And.intro (H0.out.1.then_ b1) (And.intro (H0.out.2.1.later b1) (H0.out.2.2.later b1)))
  clear b1 H0
  obtain ⟨d0, d1, d2, d3, d4, d5, _⟩ := cells6s H1.out.2.1
  go_wp2_with fail
  refine (great9_ok (HV.out.1.below H1.out.1)).mono ?_
  rintro e w2 ⟨⟨gr, rfl⟩, b2⟩
  have H2 := Lib.hid (And.intro (H1.out.1.then_ b2) (And.intro (H1.out.2.1.later b2) (H1.out.2.2.later b2)))
  clear b2 H1 d0 d1 d2 d3 d4 d5
  cases gr with
  | true =>
    go_wp2_with fail
    go_ret
    exact ⟨rfl, H2.out.1⟩
  | false =>
    obtain ⟨d0, d1, d2, d3, d4, d5, _⟩ := cells6s H2.out.2.2
    go_wp2_with fail
    refine (great9_ok (HV.out.2.1.below H2.out.1)).mono ?_
    rintro e w3 ⟨⟨gr, rfl⟩, b3⟩
    have H3 := Lib.hid (And.intro (H2.out.1.then_ b3) (And.intro (H2.out.2.1.later b3) (H2.out.2.2.later b3)))
    clear b3 H2 d0 d1 d2 d3 d4 d5
    cases gr with
    | true =>
      go_wp2_with fail
      go_ret
      exact ⟨rfl, H3.out.1⟩
    | false =>
      obtain ⟨d0, d1, d2, d3, d4, d5, _⟩ := cells6s H3.out.2.1
      go_wp2_with fail
      refine (canon_at (HV.out.1.below H3.out.1) (HV.out.2.2.below H3.out.1).1 HC.out.1).mono ?_
      rintro e w4 ⟨rfl, b4⟩
      have H4 := Lib.hid (And.intro (H3.out.1.then_ b4) (And.intro (H3.out.2.1.later b4) (H3.out.2.2.later b4)))
      clear b4 H3 d0 d1 d2 d3 d4 d5
      obtain ⟨d0, d1, d2, d3, d4, d5, _⟩ := cells6s H4.out.2.2
      go_wp2_with fail
      refine (canon_at (HV.out.2.1.below H4.out.1) (HV.out.2.2.below H4.out.1).1 HC.out.2).mono ?_
      rintro e w5 ⟨rfl, b5⟩
      have H5 := Lib.hid (And.intro (H4.out.1.then_ b5) (And.intro (H4.out.2.1.later b5) (H4.out.2.2.later b5)))
      clear b5 H4 d0 d1 d2 d3 d4 d5
      by_cases hce : ce = 0
      · by_cases hde : de = 0
        · subst hce hde
          obtain ⟨q, hq⟩ : ∃ q, sameV a0 a1 = q := ⟨_, rfl⟩
          have hs := can_tells HC.out.1 HC.out.2
          rw [hq] at hs
          have hs2 : ((⟨cb.toArray⟩ : ByteArray) == ⟨db.toArray⟩) = q := by
            rw [← hs]
            show (cb.toArray == db.toArray) = (cb == db)
            simp
          have HQ := Lib.hid hq
          clear hq
          obtain ⟨d0, d1, d2, d3, d4, d5, _⟩ := cells6s H5.out.2.1
          obtain ⟨e0, e1, e2, e3, e4, e5, _⟩ := cells6s H5.out.2.2
          go_wp2_with fail
          refine (same_calls a0.bulk a0 a1 A0 B0 A1 B1 nl0 cl0 nm0 cm0 nl1 cl1 nm1 cm1 w5 (Nat.le_refl _) (HV.out.1.below H5.out.1) (HV.out.2.1.below H5.out.1)).mono ?_
          rintro e w6 ⟨rfl, b6⟩
          have H6 := Lib.hid (H5.out.1.then_ b6)
          clear b6 d0 d1 d2 d3 d4 d5 e0 e1 e2 e3 e4 e5
          rw [HQ.out]
          cases q <;> (go_wp2_with fail; go_ret; exact ⟨rfl, H6.out⟩)
        · subst hce
          have h1 : (de != 0) = true := by simpa using hde
          go_wp2_with fail
          go_ret
          exact ⟨rfl, H5.out.1⟩
      · have h1 : (ce != 0) = true := by simpa using hce
        go_wp2_with fail
        go_ret
        exact ⟨rfl, H5.out.1⟩
end Go.Proofs.YtajkgcmopmpihaaGreatDoor
namespace Go.Proofs.YtajkgcmopmpihaaGreatDoor
open Go.ChangeShapes Go.WideShapes Go.ChangeAt Go.RowKit Go.IntWalk
set_option linter.unusedVariables false
set_option maxRecDepth 100000

def synD : DataW Unit := .iface "*errors.errorString" (.ptr (.agg [.lit (.string [105, 110, 118, 97, 108, 105, 100, 32, 115, 121, 110, 116, 97, 120])]))
def rngD : DataW Unit := .iface "*errors.errorString" (.ptr (.agg [.lit (.string [118, 97, 108, 117, 101, 32, 111, 117, 116, 32, 111, 102, 32, 114, 97, 110, 103, 101])]))
theorem gSyn : Tryz.prog.globalNamed "strconv.ErrSyntax" = some 1 := by kernel_rfl
theorem gSynT : (Tryz.prog.globals[1]?).map (·.type) = some 110 := by kernel_rfl
theorem gRng : Tryz.prog.globalNamed "strconv.ErrRange" = some 2 := by kernel_rfl
theorem gRngT : (Tryz.prog.globals[2]?).map (·.type) = some 110 := by kernel_rfl
theorem errCells : Tryz.prog.cellsOf 186 = 1 := by kernel_rfl
theorem strCells : Tryz.prog.cellsOf 9 = 1 := by kernel_rfl
theorem starErr : "*" ++ "errors.errorString" = "*errors.errorString" := by decide
theorem errRow (u : TypeId) (h : Tryz.prog.typeName? 3 u = some "*errors.errorString") : u = 184 :=
  typeName_ptr_named (nm := "errors.errorString") (by rw [starErr]; kernel_rfl) (by kernel_rfl) (by decide) u (by rw [starErr]; exact h)
theorem errC_of_laid {W : World} (h1 : laidMet Tryz.prog [("strconv.ErrSyntax", synD)] W) (h2 : laidMet Tryz.prog [("strconv.ErrRange", rngD)] W) : ErrC W := by
  obtain ⟨a1, s1, v1, -, -, -⟩ := laid_sentinel h1 gSyn gSynT Tryz.underlying110 errRow Tryz.underlying184 Tryz.underlying186 rfl rfl Tryz.underlying9 errCells strCells
  obtain ⟨a2, s2, v2, -, -, -⟩ := laid_sentinel h2 gRng gRngT Tryz.underlying110 errRow Tryz.underlying184 Tryz.underlying186 rfl rfl Tryz.underlying9 errCells strCells
  have c1 := World.var?_cell gSyn v1 0
  have c2 := World.var?_cell gRng v2 0
  have c1' : W.cell? ⟨1, 0, none⟩ = some (.iface 184 (.pointer (some a1))) := by simpa using c1
  have c2' : W.cell? ⟨2, 0, none⟩ = some (.iface 184 (.pointer (some a2))) := by simpa using c2
  exact ⟨World.block_lt_of_cell? W _ c2', ⟨_, c1', .inr ⟨_, _, rfl⟩⟩, _, c2', .inr ⟨_, _, rfl⟩⟩
end Go.Proofs.YtajkgcmopmpihaaGreatDoor
namespace Go.Proofs.YtajkgcmopmpihaaGreatDoor
open Go.Lib
set_option linter.unusedVariables false

def okE (r : Res) : Prop := (∃ b, r = .ok b) ∨ r = .error 3
theorem okE_lng (b : List UInt8) : okE (lng b) := by
  unfold lng
  split
  · exact .inl ⟨_, rfl⟩
  · exact .inr rfl
theorem okE_txt (b : List UInt8) {s : List UInt8} (h : validD s = true) : okE (txt b s) := by
  unfold txt
  split
  · exact .inr rfl
  · exact okE_lng _
theorem okE_then {r : Res} {f : List UInt8 → Res} (h1 : okE r) (h2 : ∀ b, okE (f b)) : okE (r.then f) := by
  rcases h1 with ⟨b, rfl⟩ | rfl
  · exact h2 b
  · exact .inr rfl
def JT.all (Pr : List UInt8 → Jv → Prop) : JT → Prop
  | .nil => True
  | .cons k kd is n s l m r => Pr k ⟨kd, is, n, s, l, m⟩ ∧ r.all Pr
def Cn (deep : Nat) (v : Jv) : Prop := ∀ b, okE (wrV v deep b)
/-- The keys rise, from one on. -/
def risT : Option (List UInt8) → JT → Prop
  | _, .nil => True
  | p, .cons k _ _ _ _ _ _ r => (∀ q, p = some q → Op.bytesLess q k = true) ∧ risT (some k) r
theorem leq_no {p k : List UInt8} (h : Op.bytesLess p k = true) : leqB k p = false := by
  unfold leqB
  simp only [Bool.or_eq_false_iff, beq_eq_false_iff_ne]
  refine ⟨?_, ?_⟩
  · cases hx : Op.bytesLess k p with
    | false => rfl
    | true => have := less_trans h hx; rw [less_irr] at this; cases this
  · intro e; subst e; rw [less_irr] at h; cases h
theorem wrF_okL (deep : Nat) : ∀ (t : JT) (p : Option (List UInt8)) (b : List UInt8), t.all (fun _ v => Cn deep v) → okE (wrF false t deep p b)
  | .nil, _, b, _ => .inl ⟨b, rfl⟩
  | .cons k kd is n s l m r, p, b, h => by
    show okE ((wrK false p k b).then fun b => (wrV ⟨kd, is, n, s, l, m⟩ deep b).then fun b => wrF false r deep (some k) b)
    refine okE_then ?_ (fun b => okE_then (h.1 b) (fun b => wrF_okL deep r _ b h.2))
    cases p with
    | none => exact .inl ⟨_, rfl⟩
    | some q => exact okE_then (okE_then (okE_lng _) (fun b => .inl ⟨b, rfl⟩)) (fun b => .inl ⟨b, rfl⟩)
theorem wrF_okM (deep : Nat) : ∀ (t : JT) (p : Option (List UInt8)) (b : List UInt8), t.all (fun k v => validD k = true ∧ Cn deep v) → risT p t → okE (wrF true t deep p b)
  | .nil, _, b, _, _ => .inl ⟨b, rfl⟩
  | .cons k kd is n s l m r, p, b, h, hr => by
    show okE ((wrK true p k b).then fun b => (wrV ⟨kd, is, n, s, l, m⟩ deep b).then fun b => wrF true r deep (some k) b)
    refine okE_then ?_ (fun b => okE_then (h.1.2 b) (fun b => wrF_okM deep r _ b h.2 hr.2))
    have hk : ∀ b, okE ((txt b k).then fun b => lng (b ++ [58])) := fun b => okE_then (okE_txt b h.1.1) (fun b => okE_lng _)
    cases p with
    | none => exact hk b
    | some q =>
      refine okE_then (okE_then (okE_lng _) (fun b => ?_)) hk
      show okE (if true && leqB k q then .error 1 else .ok b)
      rw [leq_no (hr.1 q rfl)]
      exact .inl ⟨b, rfl⟩
theorem cn_list {d : Nat} {t : JT} (hd : ¬ 32 ≤ d) (h : t.all (fun _ v => Cn (d + 1) v)) : Cn d (lstV t) := fun b => by
  show okE (wrB (lstV t) d (fun b => wrF false t (d + 1) none b) (fun b => wrF true .nil (d + 1) none b) b)
  unfold wrB
  rw [if_neg (show ¬ (lstV t).bare = false by simp [lstV, Jv.bare, JT.isNil]), if_neg (show ¬ (lstV t).kd = 0 by show ¬ (4 : Int) = 0; decide), if_neg (show ¬ (lstV t).kd = 1 by show ¬ (4 : Int) = 1; decide), if_neg (show ¬ (lstV t).kd = 2 by show ¬ (4 : Int) = 2; decide), if_neg (show ¬ (lstV t).kd = 3 by show ¬ (4 : Int) = 3; decide), if_neg hd, if_pos (show (lstV t).kd = 4 from rfl)]
  exact okE_then (okE_lng _) (fun b => okE_then (wrF_okL _ _ _ _ h) (fun b => okE_lng _))
theorem cn_map {d : Nat} {t : JT} (hd : ¬ 32 ≤ d) (h : t.all (fun k v => validD k = true ∧ Cn (d + 1) v)) (hr : risT none t) : Cn d (mapV t) := fun b => by
  show okE (wrB (mapV t) d (fun b => wrF false .nil (d + 1) none b) (fun b => wrF true t (d + 1) none b) b)
  unfold wrB
  rw [if_neg (show ¬ (mapV t).bare = false by simp [mapV, Jv.bare, JT.isNil]), if_neg (show ¬ (mapV t).kd = 0 by show ¬ (5 : Int) = 0; decide), if_neg (show ¬ (mapV t).kd = 1 by show ¬ (5 : Int) = 1; decide), if_neg (show ¬ (mapV t).kd = 2 by show ¬ (5 : Int) = 2; decide), if_neg (show ¬ (mapV t).kd = 3 by show ¬ (5 : Int) = 3; decide), if_neg hd, if_neg (show ¬ (mapV t).kd = 4 by show ¬ (5 : Int) = 4; decide)]
  exact okE_then (okE_lng _) (fun b => okE_then (wrF_okM _ _ _ _ h hr) (fun b => okE_lng _))
theorem cn_text {d : Nat} {s : List UInt8} (h : validD s = true) : Cn d ⟨3, false, 0, s, .nil, .nil⟩ := fun b => by
  unfold wrV wrB
  rw [if_neg (by simp [Jv.bare, JT.isNil]), if_neg (show ¬ (3 : Int) = 0 by decide), if_neg (show ¬ (3 : Int) = 1 by decide), if_neg (show ¬ (3 : Int) = 2 by decide), if_pos rfl]
  exact okE_txt _ h
theorem cn_num {d : Nat} {n : Int} (h1 : -9007199254740991 ≤ n) (h2 : n ≤ 9007199254740991) : Cn d ⟨2, false, n, [], .nil, .nil⟩ := fun b => by
  unfold wrV wrB
  rw [if_neg (by simp [Jv.bare, JT.isNil]; omega), if_neg (show ¬ (2 : Int) = 0 by decide), if_neg (show ¬ (2 : Int) = 1 by decide), if_pos rfl]
  exact okE_lng _
theorem cn_null (d : Nat) : Cn d nullJ := fun b => okE_lng _
theorem cn_bool (d : Nat) (x : Bool) : Cn d ⟨1, x, 0, [], .nil, .nil⟩ := fun b => by
  unfold wrV wrB
  rw [if_neg (by cases x <;> decide), if_neg (show ¬ (1 : Int) = 0 by decide), if_pos rfl]
  exact okE_lng _
theorem all_snoc {Pr : List UInt8 → Jv → Prop} : ∀ {t : JT} {k : List UInt8} {v : Jv}, t.all Pr → Pr k v → (t.snoc k v).all Pr
  | .nil, k, v, _, h => by obtain ⟨_, _, _, _, _, _⟩ := v; exact ⟨h, trivial⟩
  | .cons .., k, v, h1, h => ⟨h1.1, all_snoc h1.2 h⟩
theorem all_ins {Pr : List UInt8 → Jv → Prop} : ∀ {t : JT} {k : List UInt8} {v : Jv}, t.all Pr → Pr k v → (t.ins k v).all Pr
  | .nil, k, v, _, h => by obtain ⟨_, _, _, _, _, _⟩ := v; exact ⟨h, trivial⟩
  | .cons k0 kd is n s l m r, k, v, h1, h => by
    simp only [JT.ins]
    split
    · exact ⟨h1.1, all_ins h1.2 h⟩
    · obtain ⟨_, _, _, _, _, _⟩ := v; exact ⟨h, h1⟩
theorem ris_ins : ∀ {t : JT} {p : Option (List UInt8)} {k : List UInt8} {v : Jv}, risT p t → t.hasK k = false → (∀ q, p = some q → Op.bytesLess q k = true) → risT p (t.ins k v)
  | .nil, p, k, v, _, _, h => by obtain ⟨_, _, _, _, _, _⟩ := v; exact ⟨h, trivial⟩
  | .cons k0 kd is n s l m r, p, k, v, h1, hk, h => by
    simp only [JT.hasK, Bool.or_eq_false_iff, beq_eq_false_iff_ne] at hk
    simp only [JT.ins]
    split
    · rename_i hlt
      exact ⟨h1.1, ris_ins h1.2 hk.2 (fun q hq => by injection hq with hq; rw [← hq]; exact hlt)⟩
    · rename_i hlt
      obtain ⟨_, _, _, _, _, _⟩ := v
      refine ⟨h, fun q hq => ?_, h1.2⟩
      injection hq with hq
      rw [← hq]
      rcases less_tot k0 k with e | e | e
      · exact absurd e hlt
      · exact absurd e hk.1
      · exact e
theorem numP_rng {r : List UInt8} {p : Jv × List UInt8} (h : numP r = .ok p) : ∃ n, p.1 = ⟨2, false, n, [], .nil, .nil⟩ ∧ -9007199254740991 ≤ n ∧ n ≤ 9007199254740991 := by
  unfold numP at h
  split at h
  · cases h
  · split at h
    · rename_i n _
      split at h
      · cases h
      · rename_i hn
        injection h with h
        subst h
        refine ⟨n, rfl, ?_, ?_⟩
        · have : ¬ n < -9007199254740991 := fun e => hn (.inr (.inl e))
          omega
        · have : ¬ 9007199254740991 < n := fun e => hn (.inr (.inr e))
          omega
    · cases h
theorem scan_valid {q out : List UInt8} {k : Nat} (h : scan q = some (out, k)) : validD out = true := (scan_ok _ q (Nat.le_refl _) out k h).1
def PCn : Md → Nat → Jv → Prop
  | .v, deep, v => Cn deep v
  | .l _, deep, v => ∃ t, v = lstV t ∧ t.all (fun _ v => Cn deep v)
  | .t _, deep, v => ∃ t, v = mapV t ∧ t.all (fun k v => validD k = true ∧ Cn deep v) ∧ risT none t
def MCn : Md → Nat → Prop
  | .v, _ => True
  | .l acc, deep => acc.all (fun _ v => Cn deep v)
  | .t acc, deep => acc.all (fun k v => validD k = true ∧ Cn deep v) ∧ risT none acc
theorem P_cn : ∀ (f : Nat) (m : Md) (deep : Nat) (r : List UInt8) (p : Jv × List UInt8), deep ≤ 32 → MCn m deep → P f m deep r = .ok p → PCn m deep p.1
  | 0, _, _, _, _, _, _, h => by cases h
  | f + 1, .v, deep, r0, p, hd, _, h => by
    have hl : ¬ deep = 32 → ∀ q, P f (.l .nil) (deep + 1) q = .ok p → Cn deep p.1 := fun h32 q h => by
      obtain ⟨t, e, ht⟩ := P_cn f (.l .nil) (deep + 1) q p (by omega) trivial h
      rw [e]; exact cn_list (by omega) ht
    have ht : ¬ deep = 32 → ∀ q, P f (.t .nil) (deep + 1) q = .ok p → Cn deep p.1 := fun h32 q h => by
      obtain ⟨t, e, ht, hr⟩ := P_cn f (.t .nil) (deep + 1) q p (by omega) ⟨trivial, trivial⟩ h
      rw [e]; exact cn_map (by omega) ht hr
    show Cn deep p.1
    unfold P at h
    split at h
    · cases h
    · split at h
      · split at h
        · cases h
        · rename_i h32
          split at h
          · exact hl h32 _ h
          · split at h
            · cases h; exact cn_list (by omega) trivial
            · exact hl h32 _ h
      · split at h
        · split at h
          · cases h
          · rename_i h32
            split at h
            · exact ht h32 _ h
            · split at h
              · cases h; exact cn_map (by omega) trivial trivial
              · exact ht h32 _ h
        · split at h
          · split at h
            · cases h
            · rename_i k hk
              cases h; exact cn_text (scan_valid hk)
          · split at h
            · obtain ⟨n, e, h1, h2⟩ := numP_rng h
              rw [e]; exact cn_num h1 h2
            · split at h
              · cases h; exact cn_null _
              · split at h
                · cases h; exact cn_bool _ _
                · split at h
                  · cases h; exact cn_bool _ _
                  · cases h
  | f + 1, .l acc, deep, r0, p, hd, hm, h => by
    unfold P at h
    cases hx : P f .v deep r0 with
    | error e => rw [hx] at h; cases h
    | ok x =>
      rw [hx] at h
      have h1 : Cn deep x.1 := P_cn f .v deep r0 x hd trivial hx
      have h2 : (acc.snoc [] x.1).all (fun _ v => Cn deep v) := all_snoc hm h1
      simp only [PRes.then] at h
      split at h
      · cases h
      · split at h
        · cases h; exact ⟨_, rfl, h2⟩
        · split at h
          · exact P_cn f (.l (acc.snoc [] x.1)) deep _ p hd h2 h
          · cases h
  | f + 1, .t acc, deep, r0, p, hd, hm, h => by
    unfold P at h
    split at h
    · cases h
    · split at h
      · split at h
        · cases h
        · rename_i k hk
          split at h
          · cases h
          · rename_i hkk
            split at h
            · cases h
            · split at h
              · rename_i d q2 _ _
                cases hx : P f .v deep q2 with
                | error e => rw [hx] at h; cases h
                | ok x =>
                  rw [hx] at h
                  have h1 : Cn deep x.1 := P_cn f .v deep q2 x hd trivial hx
                  have h2 : (acc.ins k.1 x.1).all (fun k v => validD k = true ∧ Cn deep v) := all_ins hm.1 ⟨scan_valid hk, h1⟩
                  have h3 : risT none (acc.ins k.1 x.1) := ris_ins hm.2 (by simpa using hkk) (fun q hq => by cases hq)
                  simp only [PRes.then] at h
                  split at h
                  · cases h
                  · split at h
                    · cases h; exact ⟨_, rfl, h2, h3⟩
                    · split at h
                      · exact P_cn f (.t (acc.ins k.1 x.1)) deep _ p hd ⟨h2, h3⟩ h
                      · cases h
              · cases h
      · cases h
/-- What is read has a canonical text, unless it is too long. -/
theorem par_cn {s : List UInt8} {v : Jv} (h : parF s = (v, 0)) : (∃ t, canF v = (t, 0)) ∨ canF v = ([], 3) := by
  have h1 : Cn 0 v := by
    unfold parF at h
    split at h
    · injection h with _ h; exact absurd h (by decide)
    · split at h
      · rename_i e he
        injection h with _ h
        subst h
        exact absurd he (by unfold pV; exact P_ne0 _ _ _ _)
      · rename_i p hp
        split at h
        · injection h with h _
          subst h
          exact P_cn _ .v 0 s p (by omega) trivial hp
        · injection h with _ h; exact absurd h (by decide)
  rcases h1 [] with ⟨b, hb⟩ | hb
  · left; exact ⟨b, by unfold canF; rw [hb]⟩
  · right; unfold canF; rw [hb]
end Go.Proofs.YtajkgcmopmpihaaGreatDoor
namespace Go.Proofs.YtajkgcmopmpihaaGreatDoor
open Go.ChangeShapes Go.WideShapes Go.ChangeAt Go.RowKit Go.IntWalk
set_option linter.unusedVariables false
set_option maxRecDepth 100000

theorem nrm_same2 (v : Jv) : sameV v (nrmV v) = true := by
  rw [same_nrm]
  have : ∀ (t : JT) (mem : Bool), nrmT mem (nrmT mem t) = nrmT mem t := by
    intro t
    induction t with
    | nil => intro mem; rfl
    | cons k kd is n s l m r hl hm hr => intro mem; simp only [nrmT, hl, hm, hr]; cases mem <;> rfl
  unfold nrmV
  rw [this, this]
theorem nrm_same3 (v : Jv) : sameV (nrmV v) v = true := by rw [same_nrm, (same_nrm.1 (nrm_same2 v)).symm]
set_option maxHeartbeats 8000000 in
theorem jsonBack_walk (a0 : Jv) (A0 B0 : Option Addr) (nl0 cl0 nm0 cm0 : Nat) {w : World} (hr0 : VOk w a0 A0 B0 nl0 cl0 nm0 cm0) (a1 : ByteArray) (w1 : a1.size ≤ maxLen) (hT : TabP w) :
    Calls Tryz.prog 5 #[.agg #[.int .i64 a0.kd, .bool a0.is, .int .i64 a0.n, .string ⟨a0.s.toArray⟩, .slice A0 nl0 cl0, .slice B0 nm0 cm0], .string a1] w fun e w' => e = .returned (.bool true) ∧ Below w.heap.size w w' := by
  obtain ⟨⟨s⟩⟩ := a1
  have hss : (⟨s.toArray⟩ : ByteArray).size = s.length := rfl
  show Calls Tryz.prog 5 #[.agg #[.int .i64 a0.kd, .bool a0.is, .int .i64 a0.n, .string ⟨a0.s.toArray⟩, .slice A0 nl0 cl0, .slice B0 nm0 cm0], .string ⟨s.toArray⟩] w _
  have b0 : Below w.heap.size w (w.alloc (.cells #[.int .i64 a0.kd, .bool a0.is, .int .i64 a0.n, .string ⟨a0.s.toArray⟩, .slice A0 nl0 cl0, .slice B0 nm0 cm0] 25)) := (Below.refl _ _).alloc (Nat.le_refl _) _
  have HV := Lib.hid (And.intro hr0 hT)
  have H0 := Lib.hid (And.intro b0 (Blk.new w [.int .i64 a0.kd, .bool a0.is, .int .i64 a0.n, .string ⟨a0.s.toArray⟩, .slice A0 nl0 cl0, .slice B0 nm0 cm0] 25))
  obtain ⟨cb, ce, hc⟩ : ∃ cb ce, canF a0 = (cb, ce) := ⟨_, _, rfl⟩
  obtain ⟨pv, pe, hp⟩ : ∃ pv pe, parF s = (pv, pe) := ⟨_, _, rfl⟩
  have HC := Lib.hid (And.intro hc hp)
  obtain ⟨n, hn⟩ : ∃ n, s.length = n := ⟨_, rfl⟩
  have hsz : (⟨s.toArray⟩ : ByteArray).size = n := hn
  have HN := Lib.hid hn
  clear hr0 hT b0 hc hp hn w1 hss
  go_enter Tryz.func5, Tryz.ntmps5
  go_upto_region 1 with fail
  refine wp_gen (fun W => Below w.heap.size w W ∧ Blk W w.heap.size 25 [.int .i64 a0.kd, .bool a0.is, .int .i64 a0.n, .string ⟨a0.s.toArray⟩, .slice A0 nl0 cl0, .slice B0 nm0 cm0]) H0.out ?_
  clear H0
  rintro W0 hW0
  have H0 := Lib.hid hW0
  clear hW0
  go_wp2_with fail
  refine (alive9_calls W0 (HV.out.2.below H0.out.1).2 (HV.out.2.below H0.out.1).1).mono ?_
  rintro e w1 ⟨rfl, b1⟩
  have H1 := Lib.hid (And.intro (H0.out.1.then_ b1) (H0.out.2.later b1))
  clear b1 H0
  obtain ⟨d0, d1, d2, d3, d4, d5, _⟩ := cells6s H1.out.2
  go_wp2_with fail
  refine (great9_ok (HV.out.1.below H1.out.1)).mono ?_
  rintro e w2 ⟨⟨gr, rfl⟩, b2⟩
  have H2 := Lib.hid (And.intro (H1.out.1.then_ b2) (H1.out.2.later b2))
  clear b2 H1 d0 d1 d2 d3 d4 d5
  cases gr with
  | true =>
    go_wp2_with fail
    go_ret
    exact ⟨rfl, H2.out.1⟩
  | false =>
    by_cases h8 : 8192 < n
    · have g1 : (8192 : Int) < (n : Int) := by omega
      have g2 : decide ((8192 : Int) < (n : Int)) = true := by simpa using g1
      go_wp2_with fail
      go_ret
      exact ⟨rfl, H2.out.1⟩
    have g1 : ¬ (8192 : Int) < (n : Int) := by omega
    have g2 : decide ((8192 : Int) < (n : Int)) = false := by simpa using g1
    have HSL := Lib.hid (show s.length ≤ 140737488355328 by rw [HN.out]; omega)
    obtain ⟨d0, d1, d2, d3, d4, d5, _⟩ := cells6s H2.out.2
    go_wp2_with fail
    refine (canon_at (HV.out.1.below H2.out.1) (HV.out.2.below H2.out.1).1 HC.out.1).mono ?_
    rintro e w3 ⟨rfl, b3⟩
    have H3 := Lib.hid (And.intro (H2.out.1.then_ b3) (H2.out.2.later b3))
    clear b3 H2 d0 d1 d2 d3 d4 d5 g1 g2 h8
    by_cases hce : ce = 0
    · subst hce
      have hl : cb.length ≤ 140737488355328 := by
        have h := HC.out.1
        unfold canF at h
        cases hw : wrV a0 0 [] with
        | error e => rw [hw] at h; injection h with h _; rw [← h]; exact Nat.zero_le _
        | ok b => rw [hw] at h; injection h with h _; rw [← h]; exact Nat.le_trans (wrV_le hw) (by decide)
      have HL := Lib.hid hl
      clear hl
      go_wp2_with fail
      refine (parse_at w3 (par_can HC.out.1) (HV.out.2.below H3.out.1).2 HL.out).mono ?_
      rintro e w4 ⟨A4, B4, nl4, cl4, nm4, cm4, rfl, hv4, _, b4⟩
      have hbA : Below w4.heap.size w4 (w4.alloc (.cells #[.int .i64 (nrmV a0).kd, .bool (nrmV a0).is, .int .i64 (nrmV a0).n, .string ⟨(nrmV a0).s.toArray⟩, .slice A4 nl4 cl4, .slice B4 nm4 cm4] 25)) := (Below.refl _ _).alloc (Nat.le_refl _) _
      have H4 := Lib.hid (And.intro ((H3.out.1.then_ b4).then_ hbA) (And.intro ((H3.out.2.later b4).later hbA) (hv4.below hbA)))
      obtain ⟨d0, d1, d2, d3, d4, d5, _⟩ := cells6s (H3.out.2.later b4)
      have hlt : w.heap.size < w4.heap.size := (H3.out.2.later b4).lt
      clear b4 hv4 hbA H3
      have hne : ¬ w.heap.size = w4.heap.size := by omega
      go_wp2_with fail
      refine (same_calls a0.bulk a0 (nrmV a0) A0 B0 A4 B4 nl0 cl0 nm0 cm0 nl4 cl4 nm4 cm4 _ (Nat.le_refl _) (HV.out.1.below H4.out.1) H4.out.2.2).mono ?_
      rintro e w5 ⟨rfl, b5⟩
      rw [nrm_same2]
      have H5 := Lib.hid (H4.out.1.then_ b5)
      clear b5 H4 d0 d1 d2 d3 d4 d5 hlt hne
      go_wp2_with fail
      refine (parse_at w5 HC.out.2 (HV.out.2.below H5.out).2 HSL.out).mono ?_
      rintro e w6 ⟨A6, B6, nl6, cl6, nm6, cm6, rfl, hv6, _, b6⟩
      have H6 := Lib.hid (And.intro (H5.out.then_ b6) hv6)
      clear b6 hv6 H5
      by_cases hpe : pe = 0
      · subst hpe
        have hbA : Below w6.heap.size w6 (w6.alloc (.cells #[.int .i64 pv.kd, .bool pv.is, .int .i64 pv.n, .string ⟨pv.s.toArray⟩, .slice A6 nl6 cl6, .slice B6 nm6 cm6] 25)) := (Below.refl _ _).alloc (Nat.le_refl _) _
        have H7 := Lib.hid (And.intro (H6.out.1.then_ hbA) (And.intro (H6.out.2.below hbA) (Blk.new w6 [.int .i64 pv.kd, .bool pv.is, .int .i64 pv.n, .string ⟨pv.s.toArray⟩, .slice A6 nl6 cl6, .slice B6 nm6 cm6] 25)))
        clear hbA H6
        rcases par_cn HC.out.2 with ⟨ct, hct⟩ | hct
        · have hl : ct.length ≤ 140737488355328 := by
            have h := hct
            unfold canF at h
            cases hw : wrV pv 0 [] with
            | error e => rw [hw] at h; injection h with h _; rw [← h]; exact Nat.zero_le _
            | ok b => rw [hw] at h; injection h with h _; rw [← h]; exact Nat.le_trans (wrV_le hw) (by decide)
          have HL := Lib.hid (And.intro hct hl)
          clear hct hl
          go_wp2_with fail
          refine (canon_at H7.out.2.1 (HV.out.2.below H7.out.1).1 HL.out.1).mono ?_
          rintro e w8 ⟨rfl, b8⟩
          have H8 := Lib.hid (And.intro (H7.out.1.then_ b8) (And.intro (H7.out.2.1.below b8) (H7.out.2.2.later b8)))
          clear b8 H7
          go_wp2_with fail
          refine (parse_at w8 (par_can HL.out.1) (HV.out.2.below H8.out.1).2 HL.out.2).mono ?_
          rintro e w9 ⟨A9, B9, nl9, cl9, nm9, cm9, rfl, hv9, _, b9⟩
          have hbB : Below w9.heap.size w9 (w9.alloc (.cells #[.int .i64 (nrmV pv).kd, .bool (nrmV pv).is, .int .i64 (nrmV pv).n, .string ⟨(nrmV pv).s.toArray⟩, .slice A9 nl9 cl9, .slice B9 nm9 cm9] 25)) := (Below.refl _ _).alloc (Nat.le_refl _) _
          have k9 := (H8.out.2.2.later b9)
          obtain ⟨d0, d1, d2, d3, d4, d5, _⟩ := cells6s k9
          have hlt : w6.heap.size < w9.heap.size := k9.lt
          have hne : ¬ w6.heap.size = w9.heap.size := by omega
          have H9 := Lib.hid (And.intro ((H8.out.1.then_ b9).then_ hbB) (And.intro ((H8.out.2.1.below b9).below hbB) (hv9.below hbB)))
          clear b9 hv9 hbB k9 H8
          go_wp2_with fail
          refine (same_calls (nrmV pv).bulk (nrmV pv) pv A9 B9 A6 B6 nl9 cl9 nm9 cm9 nl6 cl6 nm6 cm6 _ (Nat.le_refl _) H9.out.2.2 H9.out.2.1).mono ?_
          rintro e w10 ⟨rfl, b10⟩
          rw [nrm_same3]
          have H10 := Lib.hid (H9.out.1.then_ b10)
          clear b10 d0 d1 d2 d3 d4 d5 hlt hne
          go_wp2_with fail
          go_ret
          exact ⟨rfl, H10.out⟩
        · go_wp2_with fail
          refine (canon_at H7.out.2.1 (HV.out.2.below H7.out.1).1 hct).mono ?_
          rintro e w8 ⟨rfl, b8⟩
          have H8 := Lib.hid (H7.out.1.then_ b8)
          clear b8 H7 hct
          go_wp2_with fail
          refine (parse_calls [] w8 (HV.out.2.below H8.out).2 (by decide)).mono ?_
          rintro e w9 ⟨A9, B9, nl9, cl9, nm9, cm9, rfl, hv9, b9⟩
          have H9 := Lib.hid ((H8.out.then_ b9).then_ ((Below.refl _ _).alloc (Nat.le_refl _) (.cells #[.int .i64 (parF []).1.kd, .bool (parF []).1.is, .int .i64 (parF []).1.n, .string ⟨(parF []).1.s.toArray⟩, .slice A9 nl9 cl9, .slice B9 nm9 cm9] 25)))
          clear b9 hv9
          unfold valC
          go_wp2_with fail
          go_ret
          exact ⟨rfl, H9.out⟩
      · have h2 : (pe != 0) = true := by simpa using hpe
        have H7 := Lib.hid (H6.out.1.then_ ((Below.refl _ _).alloc (Nat.le_refl _) (.cells #[.int .i64 pv.kd, .bool pv.is, .int .i64 pv.n, .string ⟨pv.s.toArray⟩, .slice A6 nl6 cl6, .slice B6 nm6 cm6] 25)))
        go_wp2_with fail
        go_ret
        exact ⟨rfl, H7.out⟩
    · have h1 : (ce == 0) = false := by simpa using hce
      have H5 := Lib.hid H3.out.1
      clear H3
      go_wp2_with fail
      refine (parse_at w3 HC.out.2 (HV.out.2.below H5.out).2 HSL.out).mono ?_
      rintro e w6 ⟨A6, B6, nl6, cl6, nm6, cm6, rfl, hv6, _, b6⟩
      have H6 := Lib.hid (And.intro (H5.out.then_ b6) hv6)
      clear b6 hv6 H5
      by_cases hpe : pe = 0
      · subst hpe
        have hbA : Below w6.heap.size w6 (w6.alloc (.cells #[.int .i64 pv.kd, .bool pv.is, .int .i64 pv.n, .string ⟨pv.s.toArray⟩, .slice A6 nl6 cl6, .slice B6 nm6 cm6] 25)) := (Below.refl _ _).alloc (Nat.le_refl _) _
        have H7 := Lib.hid (And.intro (H6.out.1.then_ hbA) (And.intro (H6.out.2.below hbA) (Blk.new w6 [.int .i64 pv.kd, .bool pv.is, .int .i64 pv.n, .string ⟨pv.s.toArray⟩, .slice A6 nl6 cl6, .slice B6 nm6 cm6] 25)))
        clear hbA H6
        rcases par_cn HC.out.2 with ⟨ct, hct⟩ | hct
        · have hl : ct.length ≤ 140737488355328 := by
            have h := hct
            unfold canF at h
            cases hw : wrV pv 0 [] with
            | error e => rw [hw] at h; injection h with h _; rw [← h]; exact Nat.zero_le _
            | ok b => rw [hw] at h; injection h with h _; rw [← h]; exact Nat.le_trans (wrV_le hw) (by decide)
          have HL := Lib.hid (And.intro hct hl)
          clear hct hl
          go_wp2_with fail
          refine (canon_at H7.out.2.1 (HV.out.2.below H7.out.1).1 HL.out.1).mono ?_
          rintro e w8 ⟨rfl, b8⟩
          have H8 := Lib.hid (And.intro (H7.out.1.then_ b8) (And.intro (H7.out.2.1.below b8) (H7.out.2.2.later b8)))
          clear b8 H7
          go_wp2_with fail
          refine (parse_at w8 (par_can HL.out.1) (HV.out.2.below H8.out.1).2 HL.out.2).mono ?_
          rintro e w9 ⟨A9, B9, nl9, cl9, nm9, cm9, rfl, hv9, _, b9⟩
          have hbB : Below w9.heap.size w9 (w9.alloc (.cells #[.int .i64 (nrmV pv).kd, .bool (nrmV pv).is, .int .i64 (nrmV pv).n, .string ⟨(nrmV pv).s.toArray⟩, .slice A9 nl9 cl9, .slice B9 nm9 cm9] 25)) := (Below.refl _ _).alloc (Nat.le_refl _) _
          have k9 := (H8.out.2.2.later b9)
          obtain ⟨d0, d1, d2, d3, d4, d5, _⟩ := cells6s k9
          have hlt : w6.heap.size < w9.heap.size := k9.lt
          have hne : ¬ w6.heap.size = w9.heap.size := by omega
          have H9 := Lib.hid (And.intro ((H8.out.1.then_ b9).then_ hbB) (And.intro ((H8.out.2.1.below b9).below hbB) (hv9.below hbB)))
          clear b9 hv9 hbB k9 H8
          go_wp2_with fail
          refine (same_calls (nrmV pv).bulk (nrmV pv) pv A9 B9 A6 B6 nl9 cl9 nm9 cm9 nl6 cl6 nm6 cm6 _ (Nat.le_refl _) H9.out.2.2 H9.out.2.1).mono ?_
          rintro e w10 ⟨rfl, b10⟩
          rw [nrm_same3]
          have H10 := Lib.hid (H9.out.1.then_ b10)
          clear b10 d0 d1 d2 d3 d4 d5 hlt hne
          go_wp2_with fail
          go_ret
          exact ⟨rfl, H10.out⟩
        · go_wp2_with fail
          refine (canon_at H7.out.2.1 (HV.out.2.below H7.out.1).1 hct).mono ?_
          rintro e w8 ⟨rfl, b8⟩
          have H8 := Lib.hid (H7.out.1.then_ b8)
          clear b8 H7 hct
          go_wp2_with fail
          refine (parse_calls [] w8 (HV.out.2.below H8.out).2 (by decide)).mono ?_
          rintro e w9 ⟨A9, B9, nl9, cl9, nm9, cm9, rfl, hv9, b9⟩
          have H9 := Lib.hid ((H8.out.then_ b9).then_ ((Below.refl _ _).alloc (Nat.le_refl _) (.cells #[.int .i64 (parF []).1.kd, .bool (parF []).1.is, .int .i64 (parF []).1.n, .string ⟨(parF []).1.s.toArray⟩, .slice A9 nl9 cl9, .slice B9 nm9 cm9] 25)))
          clear b9 hv9
          unfold valC
          go_wp2_with fail
          go_ret
          exact ⟨rfl, H9.out⟩
      · have h2 : (pe != 0) = true := by simpa using hpe
        have H7 := Lib.hid (H6.out.1.then_ ((Below.refl _ _).alloc (Nat.le_refl _) (.cells #[.int .i64 pv.kd, .bool pv.is, .int .i64 pv.n, .string ⟨pv.s.toArray⟩, .slice A6 nl6 cl6, .slice B6 nm6 cm6] 25)))
        go_wp2_with fail
        go_ret
        exact ⟨rfl, H7.out⟩
end Go.Proofs.YtajkgcmopmpihaaGreatDoor
