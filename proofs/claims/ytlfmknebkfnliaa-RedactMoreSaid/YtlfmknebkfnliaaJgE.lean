/- JSON: Put at a map's end, walked. -/
import Derived.Test.YtlfmknebkfnliaaJgC
import Derived.Test.YtlfmknebkfnliaaJgD
namespace Go.Proofs.Ytlfmknebkfnliaa
open Go.ChangeShapes Go.WideShapes Go.ChangeAt Go.RowKit Go.IntWalk
set_option linter.unusedVariables false
set_option maxRecDepth 100000

def JT.snoc : JT → List UInt8 → Jv → JT
  | .nil, key, v => JT.one key v .nil
  | .cons k kd is n s l m r, key, v => .cons k kd is n s l m (r.snoc key v)
theorem snoc_ext : ∀ (t : JT) (key : List UInt8) (v : Jv), (t.snoc key v).ext = t.ext + 1
  | .nil, key, v => rfl
  | .cons k kd is n s l m r, key, v => by simp only [JT.snoc, JT.ext, snoc_ext r key v]
theorem snoc_lt : ∀ (t : JT) (key : List UInt8) (v : Jv) (i : Nat), i < t.ext → ((t.snoc key v).fall i).key = (t.fall i).key ∧ ((t.snoc key v).fall i).val = (t.fall i).val
  | .nil, key, v, i, h => absurd h (by simp [JT.ext])
  | .cons k kd is n s l m r, key, v, 0, h => ⟨rfl, rfl⟩
  | .cons k kd is n s l m r, key, v, i + 1, h => snoc_lt r key v i (by simp [JT.ext] at h; omega)
theorem snoc_at : ∀ (t : JT) (key : List UInt8) (v : Jv), ((t.snoc key v).fall t.ext).key = key ∧ ((t.snoc key v).fall t.ext).val = v
  | .nil, key, v => ⟨rfl, rfl⟩
  | .cons k kd is n s l m r, key, v => snoc_at r key v
/-- A map of such members. -/
def mapV (t : JT) : Jv := ⟨5, false, 0, [], .nil, t⟩
theorem own_jsl {base n : Nat} {mem : Bool} {w : World} {L : Value} {cs : List Value} {t : JT} {P Q : Nat → Prop} (h0 : w.ownsRow base (tyM mem) (stM mem) L n cs) (hn : n = t.ext) (he : ∀ i, i < t.ext → RowE P mem w cs t i)
    (hPQ : ∀ b, P b → Q b) (hQ : ∀ g, base ≤ g → g < w.heap.size → Q g) : ∃ (A : Option Addr) (c : Nat), L = .slice A n c ∧ n ≤ c ∧ JSl Q w mem A t := by
  rcases h0.2 with ⟨rfl, hn0⟩ | ⟨g, cap, cur, rfl, hb, hh, hnc, hmx, hs, ht⟩
  · refine ⟨none, 0, by rw [hn0], by omega, .inl ?_⟩
    cases t with
    | nil => rfl
    | cons => simp [JT.ext] at hn; omega
  · refine ⟨_, cap, rfl, hnc, .inr ⟨g, 0, rfl, hQ g hb (Array.getElem?_eq_some_iff.1 hh).1, JIn.of t mem g 0 (fun i hi => ?_)⟩⟩
    have hc : ∀ (k : Nat) (u : Value), cs[k]? = some u → w.cell? ⟨g, k, none⟩ = some u := fun k u hu => by
      rw [cell_of_row _ _ _ _ _ _ hh]
      rw [← ht] at hu
      simp only [List.getElem?_take] at hu
      split at hu
      · simpa using hu
      · cases hu
    obtain ⟨h2, e, h3, h4⟩ := he i hi
    refine ⟨?_, e, fun j v hj => ?_, h4.stay (fun _ _ _ => rfl) hPQ⟩
    · cases mem with
      | true => exact ⟨by rw [Nat.zero_add]; exact hc _ _ h2.1, h2.2⟩
      | false => exact h2
    · rw [Nat.zero_add]; exact hc _ _ (h3 j v hj)
theorem ownsRow_below {base n sz : Nat} {T : TypeId} {w w' : World} {L : Value} {cs : List Value} (h : w.ownsRow base T sz L n cs) (hg : Below w.heap.size w w') : w'.ownsRow base T sz L n cs := by
  refine ⟨h.1, ?_⟩
  rcases h.2 with h2 | ⟨g, cap, cur, hv, hb, hh, r⟩
  · exact .inl h2
  · exact .inr ⟨g, cap, cur, hv, hb, by rw [hg.block g ((Array.getElem?_eq_some_iff.1 hh).1)]; exact hh, r⟩
theorem ownsRow_set {base n sz g2 o : Nat} {T : TypeId} {w : World} {L v : Value} {cs : List Value} (h : w.ownsRow base T sz L n cs) (hg : g2 < base) : (w.setCell ⟨g2, o, none⟩ v).ownsRow base T sz L n cs := by
  refine ⟨h.1, ?_⟩
  rcases h.2 with h2 | ⟨g, cap, cur, hv, hb, hh, r⟩
  · exact .inl h2
  · exact .inr ⟨g, cap, cur, hv, hb, (Deep.blk_setCell_other _ _ _ _ (show g ≠ g2 by omega)).trans hh, r⟩
theorem cell_far {w : World} {g k b o : Nat} {v : Value} (h : b ≠ g) : (w.setCell ⟨g, k, none⟩ v).cell? ⟨b, o, none⟩ = w.cell? ⟨b, o, none⟩ := World.cell?_of_block (w := w) (Deep.blk_setCell_other _ _ _ _ h)
theorem blk_far {w : World} {g g2 : Nat} {T : TypeId} {cs : List Value} (h : Blk w g T cs) (hne : g ≠ g2) (k : Nat) (v : Value) : Blk (w.setCell ⟨g2, k, none⟩ v) g T cs := (Deep.blk_setCell_other _ _ _ _ hne).trans h
/-- Behind the append of one member. -/
theorem rowE_snoc {P : Nat → Prop} {w : World} {ds c7 : List Value} {t : JT} {key : List UInt8} {u : Jv} {A1 B1 : Option Addr} {nl1 cl1 nm1 cm1 : Nat} (hd : ds.length = t.ext * 7) (he : ∀ i, i < t.ext → RowE P true w ds t i)
    (hc : c7 = [strV key, .int .i64 u.kd, .bool u.is, .int .i64 u.n, strV u.s, .slice A1 nl1 cl1, .slice B1 nm1 cm1]) (hk : key.length ≤ 140737488355328) (h3 : Room nl1 cl1 u.l.ext) (h4 : Room nm1 cm1 u.m.ext) (h5 : JSl P w false A1 u.l) (h6 : JSl P w true B1 u.m) (h7 : Fit u.kd u.n u.s) :
    ∀ i, i < (t.snoc key u).ext → RowE P true w (ds ++ c7) (t.snoc key u) i := by
  intro i hi
  rw [snoc_ext] at hi
  rcases Nat.lt_succ_iff_lt_or_eq.1 hi with h | h
  · obtain ⟨e1, e, e2, e3⟩ := he i h
    have hs := snoc_lt t key u i h
    refine ⟨⟨?_, ?_⟩, e, fun j v hj => getD_app_l (e2 j v hj), ?_⟩
    · rw [hs.1]; exact getD_app_l e1.1
    · rw [hs.1]; exact e1.2
    · rw [hs.2]; exact e3
  · subst h
    have hs := snoc_at t key u
    have e7 : t.ext * stM true = ds.length + 0 := by rw [hd]; rfl
    refine ⟨⟨?_, ?_⟩, [.int .i64 u.kd, .bool u.is, .int .i64 u.n, strV u.s, .slice A1 nl1 cl1, .slice B1 nm1 cm1], fun j v hj => ?_, ?_⟩
    · rw [hs.1, e7, getD_app_r, hc]; rfl
    · rw [hs.1]; exact hk
    · rw [e7, Nat.add_zero, Nat.add_assoc, getD_app_r, hc, show kwM true = 1 from rfl, Nat.add_comm 1 j]; exact hj
    · rw [hs.2]; exact ⟨A1, nl1, cl1, B1, nm1, cm1, rfl, h3, h4, h5, h6, h7⟩
theorem fit_map : Fit 5 0 [] := by unfold Fit; decide
/-- A value whose parts lie in blocks of P. -/
def VPar (P : Nat → Prop) (w : World) (v : Jv) (A B : Option Addr) (nl cl nm cm : Nat) : Prop := Room nl cl v.l.ext ∧ Room nm cm v.m.ext ∧ JSl P w false A v.l ∧ JSl P w true B v.m ∧ Fit v.kd v.n v.s
theorem VPar.to {P Q : Nat → Prop} {w w' : World} {v : Jv} {A B : Option Addr} {nl cl nm cm : Nat} (h : VPar P w v A B nl cl nm cm) (hc : ∀ b o, P b → w'.cell? ⟨b, o, none⟩ = w.cell? ⟨b, o, none⟩) (hq : ∀ b, P b → Q b) : VPar Q w' v A B nl cl nm cm :=
  ⟨h.1, h.2.1, h.2.2.1.stay hc hq, h.2.2.2.1.stay hc hq, h.2.2.2.2⟩
theorem VPar.ok {P : Nat → Prop} {w : World} {v : Jv} {A B : Option Addr} {nl cl nm cm : Nat} (h : VPar P w v A B nl cl nm cm) (hP : ∀ b, P b → b < w.heap.size) : VOk w v A B nl cl nm cm := VPar.to h (fun _ _ _ => rfl) hP
def PutPost (P : Nat → Prop) (t : JT) (w : World) (e : Ending) (w' : World) : Prop :=
  (∃ (B : Option Addr) (nm cm : Nat), e = .returned (.agg #[.int .i64 5, .bool false, .int .i64 0, .string ⟨#[]⟩, .slice none 0 0, .slice B nm cm]) ∧ VPar (fun b => P b ∨ (w.heap.size ≤ b ∧ b < w'.heap.size)) w' (mapV t) none B 0 0 nm cm) ∧ Below w.heap.size w w'
set_option maxHeartbeats 8000000 in
theorem put_calls (v u : Jv) (A0 B0 A1 B1 : Option Addr) (nl0 cl0 nm0 cm0 nl1 cl1 nm1 cm1 : Nat) (key : List UInt8) (P : Nat → Prop) (w : World) (hP : ∀ b, P b → b < w.heap.size) (hv : VPar P w v A0 B0 nl0 cl0 nm0 cm0) (hu : VPar P w u A1 B1 nl1 cl1 nm1 cm1) (h5 : v.kd = 5) (hr : Rise (slts v.m))
    (hp : fposJ v key = v.m.ext) (hf : ffndJ v key = false) (hk : key.length ≤ 140737488355328) (hn : v.m.ext ≤ 50000) :
    Calls Try.prog 18 #[.agg #[.int .i64 5, .bool v.is, .int .i64 v.n, .string ⟨v.s.toArray⟩, .slice A0 nl0 cl0, .slice B0 nm0 cm0], .string ⟨key.toArray⟩, .agg #[.int .i64 u.kd, .bool u.is, .int .i64 u.n, .string ⟨u.s.toArray⟩, .slice A1 nl1 cl1, .slice B1 nm1 cm1]] w (PutPost P (v.m.snoc key u) w) := by
  have b4 : Below w.heap.size w ((((w.alloc (.cells #[.int .i64 5, .bool v.is, .int .i64 v.n, .string ⟨v.s.toArray⟩, .slice A0 nl0 cl0, .slice B0 nm0 cm0] 25)).alloc (.cells #[.int .i64 u.kd, .bool u.is, .int .i64 u.n, .string ⟨u.s.toArray⟩, .slice A1 nl1 cl1, .slice B1 nm1 cm1] 25)).alloc (.cells #[.int .i64 0, .bool false, .int .i64 0, .string ⟨#[]⟩, .slice none 0 0, .slice none 0 0] 25)).alloc (.cells #[.int .i64 5, .bool false, .int .i64 0, .string ⟨#[]⟩, .slice none 0 0, .slice none 0 0] 25)) := ((((Below.refl _ _).alloc (Nat.le_refl _) _).alloc (by simp) _).alloc (by simp; omega) _).alloc (by simp; omega) _
  have hsz : ((((w.alloc (.cells #[.int .i64 5, .bool v.is, .int .i64 v.n, .string ⟨v.s.toArray⟩, .slice A0 nl0 cl0, .slice B0 nm0 cm0] 25)).alloc (.cells #[.int .i64 u.kd, .bool u.is, .int .i64 u.n, .string ⟨u.s.toArray⟩, .slice A1 nl1 cl1, .slice B1 nm1 cm1] 25)).alloc (.cells #[.int .i64 0, .bool false, .int .i64 0, .string ⟨#[]⟩, .slice none 0 0, .slice none 0 0] 25)).alloc (.cells #[.int .i64 5, .bool false, .int .i64 0, .string ⟨#[]⟩, .slice none 0 0, .slice none 0 0] 25)).heap.size = w.heap.size + 4 := by simp
  have gx : Blk ((((w.alloc (.cells #[.int .i64 5, .bool v.is, .int .i64 v.n, .string ⟨v.s.toArray⟩, .slice A0 nl0 cl0, .slice B0 nm0 cm0] 25)).alloc (.cells #[.int .i64 u.kd, .bool u.is, .int .i64 u.n, .string ⟨u.s.toArray⟩, .slice A1 nl1 cl1, .slice B1 nm1 cm1] 25)).alloc (.cells #[.int .i64 0, .bool false, .int .i64 0, .string ⟨#[]⟩, .slice none 0 0, .slice none 0 0] 25)).alloc (.cells #[.int .i64 5, .bool false, .int .i64 0, .string ⟨#[]⟩, .slice none 0 0, .slice none 0 0] 25)) w.heap.size 25 [.int .i64 5, .bool v.is, .int .i64 v.n, .string ⟨v.s.toArray⟩, .slice A0 nl0 cl0, .slice B0 nm0 cm0] := (((Blk.new w [.int .i64 5, .bool v.is, .int .i64 v.n, .string ⟨v.s.toArray⟩, .slice A0 nl0 cl0, .slice B0 nm0 cm0] 25).alloc _).alloc _).alloc _
  have gu : Blk ((((w.alloc (.cells #[.int .i64 5, .bool v.is, .int .i64 v.n, .string ⟨v.s.toArray⟩, .slice A0 nl0 cl0, .slice B0 nm0 cm0] 25)).alloc (.cells #[.int .i64 u.kd, .bool u.is, .int .i64 u.n, .string ⟨u.s.toArray⟩, .slice A1 nl1 cl1, .slice B1 nm1 cm1] 25)).alloc (.cells #[.int .i64 0, .bool false, .int .i64 0, .string ⟨#[]⟩, .slice none 0 0, .slice none 0 0] 25)).alloc (.cells #[.int .i64 5, .bool false, .int .i64 0, .string ⟨#[]⟩, .slice none 0 0, .slice none 0 0] 25)) (w.heap.size + 1) 25 [.int .i64 u.kd, .bool u.is, .int .i64 u.n, .string ⟨u.s.toArray⟩, .slice A1 nl1 cl1, .slice B1 nm1 cm1] := by
    have h := Blk.new (w.alloc (.cells #[.int .i64 5, .bool v.is, .int .i64 v.n, .string ⟨v.s.toArray⟩, .slice A0 nl0 cl0, .slice B0 nm0 cm0] 25)) [.int .i64 u.kd, .bool u.is, .int .i64 u.n, .string ⟨u.s.toArray⟩, .slice A1 nl1 cl1, .slice B1 nm1 cm1] 25
    rw [show (w.alloc (.cells #[.int .i64 5, .bool v.is, .int .i64 v.n, .string ⟨v.s.toArray⟩, .slice A0 nl0 cl0, .slice B0 nm0 cm0] 25)).heap.size = w.heap.size + 1 by simp] at h
    exact (h.alloc _).alloc _
  have gz : Blk ((((w.alloc (.cells #[.int .i64 5, .bool v.is, .int .i64 v.n, .string ⟨v.s.toArray⟩, .slice A0 nl0 cl0, .slice B0 nm0 cm0] 25)).alloc (.cells #[.int .i64 u.kd, .bool u.is, .int .i64 u.n, .string ⟨u.s.toArray⟩, .slice A1 nl1 cl1, .slice B1 nm1 cm1] 25)).alloc (.cells #[.int .i64 0, .bool false, .int .i64 0, .string ⟨#[]⟩, .slice none 0 0, .slice none 0 0] 25)).alloc (.cells #[.int .i64 5, .bool false, .int .i64 0, .string ⟨#[]⟩, .slice none 0 0, .slice none 0 0] 25)) (w.heap.size + 2) 25 [.int .i64 0, .bool false, .int .i64 0, .string ⟨#[]⟩, .slice none 0 0, .slice none 0 0] := by
    have h := Blk.new ((w.alloc (.cells #[.int .i64 5, .bool v.is, .int .i64 v.n, .string ⟨v.s.toArray⟩, .slice A0 nl0 cl0, .slice B0 nm0 cm0] 25)).alloc (.cells #[.int .i64 u.kd, .bool u.is, .int .i64 u.n, .string ⟨u.s.toArray⟩, .slice A1 nl1 cl1, .slice B1 nm1 cm1] 25)) [.int .i64 0, .bool false, .int .i64 0, .string ⟨#[]⟩, .slice none 0 0, .slice none 0 0] 25
    rw [show ((w.alloc (.cells #[.int .i64 5, .bool v.is, .int .i64 v.n, .string ⟨v.s.toArray⟩, .slice A0 nl0 cl0, .slice B0 nm0 cm0] 25)).alloc (.cells #[.int .i64 u.kd, .bool u.is, .int .i64 u.n, .string ⟨u.s.toArray⟩, .slice A1 nl1 cl1, .slice B1 nm1 cm1] 25)).heap.size = w.heap.size + 2 by simp] at h
    exact h.alloc _
  have go : Blk ((((w.alloc (.cells #[.int .i64 5, .bool v.is, .int .i64 v.n, .string ⟨v.s.toArray⟩, .slice A0 nl0 cl0, .slice B0 nm0 cm0] 25)).alloc (.cells #[.int .i64 u.kd, .bool u.is, .int .i64 u.n, .string ⟨u.s.toArray⟩, .slice A1 nl1 cl1, .slice B1 nm1 cm1] 25)).alloc (.cells #[.int .i64 0, .bool false, .int .i64 0, .string ⟨#[]⟩, .slice none 0 0, .slice none 0 0] 25)).alloc (.cells #[.int .i64 5, .bool false, .int .i64 0, .string ⟨#[]⟩, .slice none 0 0, .slice none 0 0] 25)) (w.heap.size + 3) 25 [.int .i64 5, .bool false, .int .i64 0, .string ⟨#[]⟩, .slice none 0 0, .slice none 0 0] := by
    have h := Blk.new (((w.alloc (.cells #[.int .i64 5, .bool v.is, .int .i64 v.n, .string ⟨v.s.toArray⟩, .slice A0 nl0 cl0, .slice B0 nm0 cm0] 25)).alloc (.cells #[.int .i64 u.kd, .bool u.is, .int .i64 u.n, .string ⟨u.s.toArray⟩, .slice A1 nl1 cl1, .slice B1 nm1 cm1] 25)).alloc (.cells #[.int .i64 0, .bool false, .int .i64 0, .string ⟨#[]⟩, .slice none 0 0, .slice none 0 0] 25)) [.int .i64 5, .bool false, .int .i64 0, .string ⟨#[]⟩, .slice none 0 0, .slice none 0 0] 25
    rw [show (((w.alloc (.cells #[.int .i64 5, .bool v.is, .int .i64 v.n, .string ⟨v.s.toArray⟩, .slice A0 nl0 cl0, .slice B0 nm0 cm0] 25)).alloc (.cells #[.int .i64 u.kd, .bool u.is, .int .i64 u.n, .string ⟨u.s.toArray⟩, .slice A1 nl1 cl1, .slice B1 nm1 cm1] 25)).alloc (.cells #[.int .i64 0, .bool false, .int .i64 0, .string ⟨#[]⟩, .slice none 0 0, .slice none 0 0] 25)).heap.size = w.heap.size + 3 by simp] at h
    exact h
  have HB := Lib.hid b4
  have HX := Lib.hid gx; have HU := Lib.hid gu; have HZ := Lib.hid gz; have HO := Lib.hid go
  have HSZ := Lib.hid hsz
  have HV := Lib.hid (hv.ok hP)
  have HP := Lib.hid hP
  have HUV := Lib.hid hu
  have HNN := Lib.hid hv.2.1.1
  have HK := Lib.hid (And.intro hk (And.intro hr (And.intro hp hf)))
  have hn5 : nm0 ≤ 50000 := by rw [hv.2.1.1]; exact hn
  have HCM := Lib.hid (cloneM_calls P B0 nm0 cm0 v.m ((((w.alloc (.cells #[.int .i64 5, .bool v.is, .int .i64 v.n, .string ⟨v.s.toArray⟩, .slice A0 nl0 cl0, .slice B0 nm0 cm0] 25)).alloc (.cells #[.int .i64 u.kd, .bool u.is, .int .i64 u.n, .string ⟨u.s.toArray⟩, .slice A1 nl1 cl1, .slice B1 nm1 cm1] 25)).alloc (.cells #[.int .i64 0, .bool false, .int .i64 0, .string ⟨#[]⟩, .slice none 0 0, .slice none 0 0] 25)).alloc (.cells #[.int .i64 5, .bool false, .int .i64 0, .string ⟨#[]⟩, .slice none 0 0, .slice none 0 0] 25)) (fun b hb => Nat.lt_of_lt_of_le (hP b hb) b4.size) hv.2.1.1 (by omega) (hv.2.2.2.1.stay (fun b o hb => b4.cell (p := ⟨b, o, none⟩) (hP b hb)) (fun _ h => h)))
  obtain ⟨d0, d1, d2, d3, d4, d5, _⟩ := cells6s gx
  obtain ⟨o0, o1, o2, o3, o4, o5, p0, p1, p2, p3, p4, p5⟩ := cells6s go
  have H5 := Lib.hid h5
  clear b4 hsz gx gu gz go hv hu hr hp hf hk hn h5 hP
  go_enter Try.func18, Try.ntmps18
  go_wp2_with fail
  refine HCM.out.mono ?_
  rintro e w5 ⟨⟨A3, c3, rfl, hc3, _, ds, hown, hrow⟩, b5⟩
  have HO5 := Lib.hid (HO.out.later b5)
  have HX5 := Lib.hid (HX.out.later b5)
  have HU5 := Lib.hid (HU.out.later b5)
  have HZ5 := Lib.hid (HZ.out.later b5)
  have HB5 := Lib.hid (HB.out.then_ b5)
  have HW5 := Lib.hid (And.intro hown hrow)
  clear d0 d1 d2 d3 d4 d5 o0 o1 o2 o3 o4 o5 p0 p1 p2 p3 p4 p5 hown hrow b5
  obtain ⟨o0, o1, o2, o3, o4, o5, p0, p1, p2, p3, p4, p5⟩ := cells6s HO5.out
  obtain ⟨d0, d1, d2, d3, d4, d5, _⟩ := cells6s HX5.out
  have gAll : Below w.heap.size w (w5.setCell ⟨w.heap.size + 3, 5, none⟩ (.slice A3 nm0 c3)) ∧ Blk (w5.setCell ⟨w.heap.size + 3, 5, none⟩ (.slice A3 nm0 c3)) w.heap.size 25 [.int .i64 5, .bool v.is, .int .i64 v.n, .string ⟨v.s.toArray⟩, .slice A0 nl0 cl0, .slice B0 nm0 cm0] ∧ Blk (w5.setCell ⟨w.heap.size + 3, 5, none⟩ (.slice A3 nm0 c3)) (w.heap.size + 1) 25 [.int .i64 u.kd, .bool u.is, .int .i64 u.n, .string ⟨u.s.toArray⟩, .slice A1 nl1 cl1, .slice B1 nm1 cm1] ∧ Blk (w5.setCell ⟨w.heap.size + 3, 5, none⟩ (.slice A3 nm0 c3)) (w.heap.size + 2) 25 [.int .i64 0, .bool false, .int .i64 0, .string ⟨#[]⟩, .slice none 0 0, .slice none 0 0] ∧ Blk (w5.setCell ⟨w.heap.size + 3, 5, none⟩ (.slice A3 nm0 c3)) (w.heap.size + 3) 25 [.int .i64 5, .bool false, .int .i64 0, .string ⟨#[]⟩, .slice none 0 0, .slice A3 nm0 c3] ∧ (w5.setCell ⟨w.heap.size + 3, 5, none⟩ (.slice A3 nm0 c3)).ownsRow (w.heap.size + 4) (tyM true) (stM true) (.slice A3 nm0 c3) nm0 ds ∧ ∀ i, i < v.m.ext → RowE P true (w5.setCell ⟨w.heap.size + 3, 5, none⟩ (.slice A3 nm0 c3)) ds v.m i := by
    refine ⟨?_, ?_, ?_, ?_, ?_, ?_, ?_⟩
    · exact HB5.out.setCell (by show _ ≤ w.heap.size + 3; omega) _
    · exact blk_far HX5.out (by omega) _ _
    · exact blk_far HU5.out (by omega) _ _
    · exact blk_far HZ5.out (by omega) _ _
    · exact HO5.out.set_ 5 _
    · have h := HW5.out.1; rw [HSZ.out] at h; exact ownsRow_set h (by omega)
    · exact fun i hi => (HW5.out.2 i hi).stay (fun b o hb => cell_far (by have := HP.out b hb; omega)) (fun _ h => h)
  clear HX5 HU5 HZ5 HB5 HO5 HW5 HCM HB HX HU HZ HO
  obtain ⟨g1, g2, g3, g4, g5, g6, g7⟩ := gAll
  have HB := Lib.hid g1; have HX := Lib.hid g2; have HU := Lib.hid g3; have HZ := Lib.hid g4; have HO := Lib.hid g5; have HW := Lib.hid (And.intro g6 g7)
  have hff := jfind_calls v A0 B0 nl0 cl0 nm0 cm0 key _ (HV.out.below g1) HK.out.2.1
  rw [HK.out.2.2.1, HK.out.2.2.2, ← HNN.out, H5.out] at hff
  have HFI := Lib.hid hff
  clear g1 g2 g3 g4 g5 g6 g7 hff
  go_wp2_with fail
  refine HFI.out.mono ?_
  rintro e wh ⟨rfl, b6⟩
  have HBh := Lib.hid (HB.out.then_ b6)
  have HUh := Lib.hid (HU.out.later b6)
  have HZh := Lib.hid (HZ.out.later b6)
  have HOh := Lib.hid (HO.out.later b6)
  have HWh := Lib.hid (And.intro (ownsRow_below HW.out.1 b6) (show ∀ i, i < v.m.ext → RowE P true wh ds v.m i from fun i hi => (HW.out.2 i hi).stay (fun b o hb => b6.cell (p := ⟨b, o, none⟩) (by have := HB.out.size; have := HP.out b hb; show b < _; omega)) (fun _ h => h)))
  have hw4 : w.heap.size + 4 ≤ wh.heap.size := HOh.out.lt
  have HIN := Lib.hid (insertM_end (w.heap.size + 4) (.slice A3 nm0 c3) nm0 ds [.string ⟨key.toArray⟩, .int .i64 u.kd, .bool u.is, .int .i64 u.n, .string ⟨u.s.toArray⟩, .slice A1 nl1 cl1, .slice B1 nm1 cm1] _ rfl wh HWh.out.1 hw4 (by omega) rfl (by intro u hu; simp only [List.mem_cons, List.not_mem_nil, or_false] at hu; rcases hu with rfl | rfl | rfl | rfl | rfl | rfl | rfl <;> rfl))
  clear d0 d1 d2 d3 d4 d5 o0 o1 o2 o3 o4 o5 p0 p1 p2 p3 p4 p5 b6
  obtain ⟨o0, o1, o2, o3, o4, o5, p0, p1, p2, p3, p4, p5⟩ := cells6s HOh.out
  obtain ⟨e0, e1, e2, e3, e4, e5, _⟩ := cells6s HUh.out
  go_wp2_with fail
  refine HIN.out.mono ?_
  rintro e w7 ⟨A4, c4, rfl, hown, hg⟩
  have hb7 : Below (w.heap.size + 4) wh w7 := (Below.refl _ _).grown hg hw4 (fun k hk => (World.ownsRow.lt HWh.out.1 k hk).1)
  have HO7 := Lib.hid (HOh.out.below hb7 (by omega))
  have HZ7 := Lib.hid (HZh.out.below hb7 (by omega))
  have HB7 := Lib.hid (HBh.out.trans (hb7.mono (by omega)))
  have hr7 := rowE_snoc (P := P) (w := w7) (ds := ds) (c7 := [.string ⟨key.toArray⟩, .int .i64 u.kd, .bool u.is, .int .i64 u.n, .string ⟨u.s.toArray⟩, .slice A1 nl1 cl1, .slice B1 nm1 cm1]) (t := v.m) (key := key) (u := u) (by rw [HWh.out.1.1, HNN.out]; rfl) (fun i hi => (HWh.out.2 i hi).stay (fun b o hb => hb7.cell (p := ⟨b, o, none⟩) (by have := HP.out b hb; show b < _; omega)) (fun _ h => h)) rfl HK.out.1 HUV.out.1 HUV.out.2.1
    (HUV.out.2.2.1.stay (fun b o hb => HB7.out.cell (p := ⟨b, o, none⟩) (HP.out b hb)) (fun _ h => h)) (HUV.out.2.2.2.1.stay (fun b o hb => HB7.out.cell (p := ⟨b, o, none⟩) (HP.out b hb)) (fun _ h => h)) HUV.out.2.2.2.2
  obtain ⟨A5, c5, he5, hc5, hj⟩ := own_jsl (mem := true) (Q := fun b => (P b ∨ w.heap.size + 4 ≤ b) ∧ b < w7.heap.size) hown (by rw [snoc_ext, HNN.out]) hr7 (fun b hb => ⟨.inl hb, by have := HB7.out.size; have := HP.out b hb; omega⟩) (fun g h1 h2 => ⟨.inr h1, h2⟩)
  injection he5 with e1 e2 e3
  subst e1 e3
  have HJ := Lib.hid (And.intro hc5 hj)
  clear hown hg hb7 hr7 hc5 hj o0 o1 o2 o3 o4 o5 p0 p1 p2 p3 p4 p5 e0 e4 e5
  obtain ⟨o0, o1, o2, o3, o4, o5, p0, p1, p2, p3, p4, p5⟩ := cells6s HO7.out
  obtain ⟨g0, g1, g2, g3, g4, g5, k0, k1, k2, k3, k4, k5⟩ := cells6s HZ7.out
  go_wp2_with fail
  have hfin : ∀ b o, (P b ∨ w.heap.size + 4 ≤ b) ∧ b < w7.heap.size → (set6o (w7.setCell ⟨w.heap.size + 3, 5, none⟩ (.slice A4 (nm0 + 1) c4)) (w.heap.size + 2) 0 (.int .i64 5) (.bool false) (.int .i64 0) (.string ⟨#[]⟩) (.slice none 0 0) (.slice A4 (nm0 + 1) c4)).cell? ⟨b, o, none⟩ = w7.cell? ⟨b, o, none⟩ := fun b o hb => (cell6o (by rcases hb.1 with h | h; { have := HP.out b h; omega }; { omega })).trans (cell_far (by rcases hb.1 with h | h; { have := HP.out b h; omega }; { omega }))
  refine bodyPost_ret (res_cell6 rfl _ ⟨w.heap.size + 2, 0, none⟩ _ _ rfl (Blk.load (blk6o (o := 0) (blk_far HZ7.out (by omega) 5 (.slice A4 (nm0 + 1) c4))) _ Try.underlying25 rfl size_v6)) rfl ⟨⟨A4, nm0 + 1, c4, rfl, ⟨rfl, Nat.le_refl _, by decide⟩, ⟨by show nm0 + 1 = (v.m.snoc key u).ext; rw [snoc_ext, HNN.out], HJ.out.1, by omega⟩, .inl rfl, HJ.out.2.stay hfin (fun b hb => ?_), fit_map⟩, below6o (HB7.out.setCell (by show _ ≤ w.heap.size + 3; omega) _) (by omega)⟩
  rcases hb.1 with h | h
  · exact .inl h
  · refine .inr ⟨by omega, ?_⟩
    show b < (set6o _ _ 0 _ _ _ _ _ _).heap.size
    rw [size6o]
    simpa [World.setCell] using hb.2
end Go.Proofs.Ytlfmknebkfnliaa
