/- Layer 12: Content, the document's. -/
import Derived.Test.YtlfmknebkfnliaaJrC
import Derived.Test.YtlfmknebkfnliaaJrF
import Derived.Test.YtlfmknebkfnliaaJvK
namespace Go.Proofs.Ytlfmknebkfnliaa
open Go.ChangeShapes Go.WideShapes Go.ChangeAt Go.RowKit Go.IntWalk
set_option linter.unusedVariables false
set_option maxRecDepth 100000

/-- What of a member stays. -/
def keptO (kind k : List UInt8) (mv : Jv) : Option Jv :=
  if kind = kind0 ∧ k = tpiK ∧ mv.kd = 5 then (mv.m.findV sgnK).map fun x => mapV (JT.one sgnK x .nil) else if k ∈ staysL kind then some mv else none
def docJ (kind : List UInt8) : JT → JT
  | .nil => .nil
  | .cons k kd is n s l m r => match keptO kind k ⟨kd, is, n, s, l, m⟩ with
    | some u => JT.one k u (docJ kind r)
    | none => docJ kind r
theorem docJ_at (kind : List UInt8) {t : JT} {i : Nat} (h : i < t.ext) : docJ kind (t.fall i) = match keptO kind (t.fall i).key (t.fall i).val with
    | some u => JT.one (t.fall i).key u (docJ kind (t.fall (i + 1)))
    | none => docJ kind (t.fall (i + 1)) := (congrArg (docJ kind) (t.fall_of_lt i h)).trans rfl
theorem docJ_end (kind : List UInt8) {t : JT} {i : Nat} (h : t.ext ≤ i) : docJ kind (t.fall i) = .nil := by rw [t.fall_all i h]; rfl
def dcntJ (kind : List UInt8) (v : Jv) : Jv := if kind = [109, 46, 114, 111, 111, 109, 46, 99, 114, 101, 97, 116, 101] then v else if v.kd = 5 then mapV (docJ kind v.m) else mapV .nil
/-- The state of the loop over the members: the box out lies at G. -/
def DocSt (lo G : Nat) (R : JT) (kind : List UInt8) (v : Jv) (q : Nat) (wr : World) : Prop := ∃ (k : Nat) (B : Option Addr) (cm : Nat), Blk wr G 25 [.int .i64 5, .bool false, .int .i64 0, .string ⟨#[]⟩, .slice none 0 0, .slice B k cm] ∧ RowK lo (G + 1) true wr (.slice B k cm) R k ∧
  R.fall k = docJ kind (v.m.fall q) ∧ k ≤ R.ext ∧ k ≤ q
theorem tpi_not (kind : List UInt8) : tpiK ∉ staysL kind := by
  unfold staysL
  repeat' split
  all_goals decide
theorem kept_else {kind k : List UInt8} {mv : Jv} (h : ¬ (kind = kind0 ∧ k = tpiK ∧ mv.kd = 5)) : keptO kind k mv = if k ∈ staysL kind then some mv else none := if_neg h
theorem kept_tpi {kind k : List UInt8} {mv : Jv} (hk : k = tpiK) (h : ¬ (kind = kind0 ∧ mv.kd = 5)) : keptO kind k mv = none := by
  rw [kept_else (fun e => h ⟨e.1, e.2.2⟩), hk, if_neg (tpi_not kind)]
theorem kept_sgn {kind k : List UInt8} {mv : Jv} (h1 : kind = kind0) (h2 : k = tpiK) (h3 : mv.kd = 5) : keptO kind k mv = (mv.m.findV sgnK).map fun x => mapV (JT.one sgnK x .nil) := if_pos ⟨h1, h2, h3⟩
theorem RowK.set {lo base k g o : Nat} {mem : Bool} {w : World} {L v : Value} {t : JT} (h : RowK lo base mem w L t k) (h1 : lo ≤ g) (h2 : g < base) : RowK lo base mem (w.setCell ⟨g, o, none⟩ v) L t k := by
  obtain ⟨cs, h0, h3⟩ := h
  refine ⟨cs, ⟨h0.1, ?_⟩, fun i hi => ⟨(h3 i hi).1, ?_⟩⟩
  · rcases h0.2 with h4 | ⟨G, cap, cur, hv, hb, hh, r⟩
    · exact .inl h4
    · exact .inr ⟨G, cap, cur, hv, hb, (Deep.blk_setCell_other _ _ _ _ (show G ≠ g by omega)).trans hh, r⟩
  · obtain ⟨_, e, h5, h6⟩ := h3 i hi
    refine ⟨e, h5, h6.stay (fun b o' hb => World.cell?_of_block (w := w) (Deep.blk_setCell_other _ _ _ _ (show b ≠ g by have := hb.1; omega))) (fun b hb => ⟨hb.1, by simpa [World.setCell] using hb.2.1, hb.2.2⟩)⟩
theorem kd_neT {a b : Int} (h : ¬ a = b) : (a != b) = true := by rw [bne_iff_ne]; exact h
theorem kd_eqF {a b : Int} (h : a = b) : (a != b) = false := by simp [h]
theorem dcntJ_oth {kind : List UInt8} {v : Jv} (h1 : kind ≠ [109, 46, 114, 111, 111, 109, 46, 99, 114, 101, 97, 116, 101]) (h2 : ¬ v.kd = 5) : dcntJ kind v = mapV .nil := by unfold dcntJ; rw [if_neg h1, if_neg h2]
theorem dcntJ_map {kind : List UInt8} {v : Jv} (h1 : kind ≠ [109, 46, 114, 111, 111, 109, 46, 99, 114, 101, 97, 116, 101]) (h2 : v.kd = 5) : dcntJ kind v = mapV (docJ kind v.m) := by unfold dcntJ; rw [if_neg h1, if_pos h2]
set_option maxHeartbeats 16000000 in
theorem refcontent_cre (kind : List UInt8) (v : Jv) (A0 B0 : Option Addr) (nl0 cl0 nm0 cm0 : Nat) (w : World) (hv : VOk w v A0 B0 nl0 cl0 nm0 cm0) (hbk : v.m.ext ≤ 50000) (hc : kind = [109, 46, 114, 111, 111, 109, 46, 99, 114, 101, 97, 116, 101]) :
    Calls Try.prog 10 #[.string ⟨kind.toArray⟩, .agg #[.int .i64 v.kd, .bool v.is, .int .i64 v.n, .string ⟨v.s.toArray⟩, .slice A0 nl0 cl0, .slice B0 nm0 cm0]] w (CtPost (dcntJ kind v) w) := by
  have b2 : Below w.heap.size w ((w.alloc (.cells #[.int .i64 v.kd, .bool v.is, .int .i64 v.n, .string ⟨v.s.toArray⟩, .slice A0 nl0 cl0, .slice B0 nm0 cm0] 25)).alloc (.cells #[.int .i64 0, .bool false, .int .i64 0, .string ⟨#[]⟩, .slice none 0 0, .slice none 0 0] 25)) := ((Below.refl _ _).alloc (Nat.le_refl _) _).alloc (by simp) _
  have hx : Blk ((w.alloc (.cells #[.int .i64 v.kd, .bool v.is, .int .i64 v.n, .string ⟨v.s.toArray⟩, .slice A0 nl0 cl0, .slice B0 nm0 cm0] 25)).alloc (.cells #[.int .i64 0, .bool false, .int .i64 0, .string ⟨#[]⟩, .slice none 0 0, .slice none 0 0] 25)) w.heap.size 25 [.int .i64 v.kd, .bool v.is, .int .i64 v.n, .string ⟨v.s.toArray⟩, .slice A0 nl0 cl0, .slice B0 nm0 cm0] := (Blk.new w [.int .i64 v.kd, .bool v.is, .int .i64 v.n, .string ⟨v.s.toArray⟩, .slice A0 nl0 cl0, .slice B0 nm0 cm0] 25).alloc _
  have hz : Blk ((w.alloc (.cells #[.int .i64 v.kd, .bool v.is, .int .i64 v.n, .string ⟨v.s.toArray⟩, .slice A0 nl0 cl0, .slice B0 nm0 cm0] 25)).alloc (.cells #[.int .i64 0, .bool false, .int .i64 0, .string ⟨#[]⟩, .slice none 0 0, .slice none 0 0] 25)) (w.heap.size + 1) 25 [.int .i64 0, .bool false, .int .i64 0, .string ⟨#[]⟩, .slice none 0 0, .slice none 0 0] := by have h := Blk.new (w.alloc (.cells #[.int .i64 v.kd, .bool v.is, .int .i64 v.n, .string ⟨v.s.toArray⟩, .slice A0 nl0 cl0, .slice B0 nm0 cm0] 25)) [.int .i64 0, .bool false, .int .i64 0, .string ⟨#[]⟩, .slice none 0 0, .slice none 0 0] 25; rw [show (w.alloc (.cells #[.int .i64 v.kd, .bool v.is, .int .i64 v.n, .string ⟨v.s.toArray⟩, .slice A0 nl0 cl0, .slice B0 nm0 cm0] 25)).heap.size = w.heap.size + 1 by simp] at h; exact h
  have HV0 := Lib.hid hv
  have HN := Lib.hid (And.intro hv.2.1.1 hv.2.1.2.2)
  have HBK := Lib.hid hbk
  have HW := Lib.hid (And.intro b2 (And.intro hx hz))
  clear b2 hx hz hv hbk
  go_enter Try.func10, Try.ntmps10
  go_upto_region 1 with fail
  refine wp_gen (fun W => Below w.heap.size w W ∧ Blk W w.heap.size 25 [.int .i64 v.kd, .bool v.is, .int .i64 v.n, .string ⟨v.s.toArray⟩, .slice A0 nl0 cl0, .slice B0 nm0 cm0] ∧ Blk W (w.heap.size + 1) 25 [.int .i64 0, .bool false, .int .i64 0, .string ⟨#[]⟩, .slice none 0 0, .slice none 0 0]) HW.out ?_
  clear HW
  rintro wg ⟨gb, gx, gz⟩
  have HB := Lib.hid gb
  have HX := Lib.hid gx
  have HZ := Lib.hid gz
  obtain ⟨d0, d1, d2, d3, d4, d5, _⟩ := cells6s gx
  obtain ⟨z0, z1, z2, z3, z4, z5, y0, y1, y2, y3, y4, y5⟩ := cells6s gz
  clear gb gx gz
  have hcb : (kind == [109, 46, 114, 111, 111, 109, 46, 99, 114, 101, 97, 116, 101]) = true := by rw [beq_iff_eq]; exact hc
  have HE := Lib.hid (show dcntJ kind v = v by unfold dcntJ; rw [if_pos hc])
  clear hc
  go_wp2_with fail
  rw [HE.out]
  have hb9 : Below w.heap.size w (set6o wg (w.heap.size + 1) 0 (.int .i64 v.kd) (.bool v.is) (.int .i64 v.n) (.string ⟨v.s.toArray⟩) (.slice A0 nl0 cl0) (.slice B0 nm0 cm0)) := below6o HB.out (by omega)
  have hv9 := HV0.out.below hb9
  exact bodyPost_ret (res_cell6 rfl _ ⟨w.heap.size + 1, 0, none⟩ _ _ rfl (Blk.load (blk6o (o := 0) HZ.out) _ Try.underlying25 rfl size_v6)) rfl ⟨⟨A0, B0, nl0, cl0, nm0, cm0, rfl, hv9⟩, hb9⟩
set_option maxHeartbeats 16000000 in
theorem refcontent_oth (kind : List UInt8) (v : Jv) (A0 B0 : Option Addr) (nl0 cl0 nm0 cm0 : Nat) (w : World) (hv : VOk w v A0 B0 nl0 cl0 nm0 cm0) (hbk : v.m.ext ≤ 50000) (hc : kind ≠ [109, 46, 114, 111, 111, 109, 46, 99, 114, 101, 97, 116, 101]) (h5 : ¬ v.kd = 5) :
    Calls Try.prog 10 #[.string ⟨kind.toArray⟩, .agg #[.int .i64 v.kd, .bool v.is, .int .i64 v.n, .string ⟨v.s.toArray⟩, .slice A0 nl0 cl0, .slice B0 nm0 cm0]] w (CtPost (dcntJ kind v) w) := by
  have b2 : Below w.heap.size w ((w.alloc (.cells #[.int .i64 v.kd, .bool v.is, .int .i64 v.n, .string ⟨v.s.toArray⟩, .slice A0 nl0 cl0, .slice B0 nm0 cm0] 25)).alloc (.cells #[.int .i64 0, .bool false, .int .i64 0, .string ⟨#[]⟩, .slice none 0 0, .slice none 0 0] 25)) := ((Below.refl _ _).alloc (Nat.le_refl _) _).alloc (by simp) _
  have hx : Blk ((w.alloc (.cells #[.int .i64 v.kd, .bool v.is, .int .i64 v.n, .string ⟨v.s.toArray⟩, .slice A0 nl0 cl0, .slice B0 nm0 cm0] 25)).alloc (.cells #[.int .i64 0, .bool false, .int .i64 0, .string ⟨#[]⟩, .slice none 0 0, .slice none 0 0] 25)) w.heap.size 25 [.int .i64 v.kd, .bool v.is, .int .i64 v.n, .string ⟨v.s.toArray⟩, .slice A0 nl0 cl0, .slice B0 nm0 cm0] := (Blk.new w [.int .i64 v.kd, .bool v.is, .int .i64 v.n, .string ⟨v.s.toArray⟩, .slice A0 nl0 cl0, .slice B0 nm0 cm0] 25).alloc _
  have hz : Blk ((w.alloc (.cells #[.int .i64 v.kd, .bool v.is, .int .i64 v.n, .string ⟨v.s.toArray⟩, .slice A0 nl0 cl0, .slice B0 nm0 cm0] 25)).alloc (.cells #[.int .i64 0, .bool false, .int .i64 0, .string ⟨#[]⟩, .slice none 0 0, .slice none 0 0] 25)) (w.heap.size + 1) 25 [.int .i64 0, .bool false, .int .i64 0, .string ⟨#[]⟩, .slice none 0 0, .slice none 0 0] := by have h := Blk.new (w.alloc (.cells #[.int .i64 v.kd, .bool v.is, .int .i64 v.n, .string ⟨v.s.toArray⟩, .slice A0 nl0 cl0, .slice B0 nm0 cm0] 25)) [.int .i64 0, .bool false, .int .i64 0, .string ⟨#[]⟩, .slice none 0 0, .slice none 0 0] 25; rw [show (w.alloc (.cells #[.int .i64 v.kd, .bool v.is, .int .i64 v.n, .string ⟨v.s.toArray⟩, .slice A0 nl0 cl0, .slice B0 nm0 cm0] 25)).heap.size = w.heap.size + 1 by simp] at h; exact h
  have HV0 := Lib.hid hv
  have HN := Lib.hid (And.intro hv.2.1.1 hv.2.1.2.2)
  have HBK := Lib.hid hbk
  have HW := Lib.hid (And.intro b2 (And.intro hx hz))
  clear b2 hx hz hv hbk
  go_enter Try.func10, Try.ntmps10
  go_upto_region 1 with fail
  refine wp_gen (fun W => Below w.heap.size w W ∧ Blk W w.heap.size 25 [.int .i64 v.kd, .bool v.is, .int .i64 v.n, .string ⟨v.s.toArray⟩, .slice A0 nl0 cl0, .slice B0 nm0 cm0] ∧ Blk W (w.heap.size + 1) 25 [.int .i64 0, .bool false, .int .i64 0, .string ⟨#[]⟩, .slice none 0 0, .slice none 0 0]) HW.out ?_
  clear HW
  rintro wg ⟨gb, gx, gz⟩
  have HB := Lib.hid gb
  have HX := Lib.hid gx
  have HZ := Lib.hid gz
  obtain ⟨d0, d1, d2, d3, d4, d5, _⟩ := cells6s gx
  obtain ⟨z0, z1, z2, z3, z4, z5, y0, y1, y2, y3, y4, y5⟩ := cells6s gz
  clear gb gx gz
  have hcb : (kind == [109, 46, 114, 111, 111, 109, 46, 99, 114, 101, 97, 116, 101]) = false := by rw [beq_eq_false_iff_ne]; exact hc
  have hn5 := kd_neT h5
  have HE := Lib.hid (dcntJ_oth hc h5)
  clear hc h5
  go_upto_region 4 with fail
  refine wp_gen (fun W => Below wg.heap.size wg W ∧ Blk W wg.heap.size 25 [.int .i64 5, .bool false, .int .i64 0, .string ⟨#[]⟩, .slice none 0 0, .slice none 0 0]) ⟨(Below.refl _ _).alloc (Nat.le_refl _) _, Blk.new _ _ _⟩ ?_
  rintro wo ⟨gb, go⟩
  have HZ2 := Lib.hid (HZ.out.later gb)
  have HX2 := Lib.hid (HX.out.later gb)
  have HB2 := Lib.hid (HB.out.then_ gb)
  obtain ⟨o0, o1, o2, o3, o4, o5, _⟩ := cells6s go
  clear gb go d0 d1 d2 d3 d4 d5 z0 z1 z2 z3 z4 z5 y0 y1 y2 y3 y4 y5
  obtain ⟨d0, d1, d2, d3, d4, d5, _⟩ := cells6s HX2.out
  obtain ⟨z0, z1, z2, z3, z4, z5, y0, y1, y2, y3, y4, y5⟩ := cells6s HZ2.out
  go_wp2_with fail
  rw [HE.out]
  exact bodyPost_ret (res_cell6 rfl _ ⟨w.heap.size + 1, 0, none⟩ _ _ rfl (Blk.load (blk6o (o := 0) HZ2.out) _ Try.underlying25 rfl size_v6)) rfl ⟨⟨none, none, 0, 0, 0, 0, rfl, ⟨rfl, Nat.le_refl _, by decide⟩, ⟨rfl, Nat.le_refl _, by decide⟩, .inl rfl, .inl rfl, by unfold Fit mapV; decide⟩, below6o HB2.out (by omega)⟩
end Go.Proofs.Ytlfmknebkfnliaa
